/-
  What firstWord and the reference's word answer: four bytes as a number, what is missing counts as 0.
  What an entry of a listing is.
  What Listing answers: the entries of all words of all segments.
  What the reference's Listing answers: the same entries.
  The comparison of two rows of texts; few; the law Listing.
  The law Listing returns true at every image and leaves all that was in memory as it was, where the tables are as their texts lay them.
-/
import Derived.Test.YtcnmnkgnaknpdaaGreatDoorGn
import Derived.Test.YtcnmnkgnaknpdaaGreatDoorGa
import Derived.Test.YtcnmnkgnaknpdaaGreatDoorGc
import Derived.Test.YtcnmnkgnaknpdaaGreatDoorGf
import Derived.Test.YtcnmnkgnaknpdaaGreatDoorGh
import Derived.Deep.RegionLaw
import Derived.BigQuiet
import Derived.Deep.RegionWith

/-! LsA -/
namespace Go.Proofs.YtcnmnkgnaknpdaaGreatDoor
open Go.RowKit Go.Maps S01 S02 S06 S07
/-- Bytes as numbers. -/
def bi (bs : List UInt8) : List Int := bs.map fun b => (b.toNat : Int)
theorem bi_at (bs : List UInt8) (i : Nat) : (bi bs).getD i 0 = ((bs.getD i 0).toNat : Int) := by
  unfold bi
  rw [List.getD_eq_getElem?_getD, List.getD_eq_getElem?_getD, List.getElem?_map]
  cases bs[i]? <;> rfl
theorem bi_bs (bs : List UInt8) : BM.Bs (bi bs) := fun i => by
  rw [bi_at]
  have := (bs.getD i 0).toNat_lt
  omega
/-- Four bytes from a place on. -/
def lw (bs : List UInt8) (k : Nat) : Nat := (bs.getD k 0).toNat + 256 * (bs.getD (k + 1) 0).toNat + 65536 * (bs.getD (k + 2) 0).toNat + 16777216 * (bs.getD (k + 3) 0).toNat
theorem lw_lt (bs : List UInt8) (k : Nat) : lw bs k < 4294967296 := by
  unfold lw
  have h0 := (bs.getD k 0).toNat_lt
  have h1 := (bs.getD (k + 1) 0).toNat_lt
  have h2 := (bs.getD (k + 2) 0).toNat_lt
  have h3 := (bs.getD (k + 3) 0).toNat_lt
  omega
theorem pw_0 : BM.pw (8 * ((0 : Nat) : Int)) = 1 := rfl
theorem pw_1 : BM.pw (8 * ((1 : Nat) : Int)) = 256 := rfl
theorem pw_2 : BM.pw (8 * ((2 : Nat) : Int)) = 65536 := rfl
theorem pw_3 : BM.pw (8 * ((3 : Nat) : Int)) = 16777216 := rfl
theorem ow_four (l : List Int) : BM.ow l 4 = l.getD 0 0 + 256 * l.getD 1 0 + 65536 * l.getD 2 0 + 16777216 * l.getD 3 0 := by
  simp only [BM.ow, pw_0, pw_1, pw_2, pw_3]
  omega
theorem ow_min (l : List Int) : BM.ow l (min 4 l.length) = BM.ow l 4 := by
  have z : ∀ i, l.length ≤ i → l.getD i 0 = 0 := fun i hi => by rw [List.getD_eq_getElem?_getD, List.getElem?_eq_none hi]; rfl
  rcases Nat.lt_or_ge l.length 4 with h | h
  · rw [show min 4 l.length = l.length by omega, ow_four]
    obtain h | h | h | h : l.length = 0 ∨ l.length = 1 ∨ l.length = 2 ∨ l.length = 3 := by omega
    all_goals rw [h]
    · rw [z 0 (by omega), z 1 (by omega), z 2 (by omega), z 3 (by omega)]; rfl
    · rw [z 1 (by omega), z 2 (by omega), z 3 (by omega)]; simp only [BM.ow, pw_0]; omega
    · rw [z 2 (by omega), z 3 (by omega)]; simp only [BM.ow, pw_0, pw_1]; omega
    · rw [z 3 (by omega)]; simp only [BM.ow, pw_0, pw_1, pw_2]; omega
  · rw [show min 4 l.length = 4 by omega]
theorem wo_lw (bs : List UInt8) (k : Nat) : BM.wo (bi (bs.drop k)) = (lw bs k : Nat) := by
  unfold BM.wo
  rw [ow_min, ow_four]
  simp only [bi_at]
  have e : ∀ i, (bs.drop k).getD i 0 = bs.getD (k + i) 0 := fun i => by rw [List.getD_eq_getElem?_getD, List.getD_eq_getElem?_getD, List.getElem?_drop]
  rw [e, e, e, e]
  unfold lw
  simp only [Nat.add_zero]
  omega
theorem ow_or' (l : List Int) (hl : BM.Bs l) (k : Nat) (hk : k < 4) : bits .or .u32 (BM.ow l k) (l.getD k 0 * 2 ^ (8 * k) % 4294967296) = BM.ow l (k + 1) := by
  have := BM.ow_or l hl k hk
  rwa [show (8 * (k : Int)).toNat = 8 * k by omega] at this
set_option maxHeartbeats 800000 in
theorem fw_low (g off len cap : Nat) (l : List Int) (w : World) (hl : BM.Bs l) (hlen : Hid (l.length = len)) (hle : len ≤ 4) (hF : Hid (∀ i : Nat, i < len → w.cell? ⟨g, off + i, none⟩ = some (.int .u8 (l.getD i 0)))) :
    Calls Tryz.prog 31 #[.slice (some ⟨g, off, none⟩) len cap] w fun e w' => e = .returned (.int .u32 (BM.wo l)) ∧ w = w' := by
  have HL := Lib.hid hl
  clear hl
  go_enter Tryz.func31, Tryz.ntmps31
  go_wp2
  go_loop [3, 8] (fun o i => ∃ k : Nat, (k : Int) ≤ len ∧ i = .int .i64 k ∧ o = .int .u32 (BM.ow l k)) (fun _ i => (4 - intOf i).toNat)
  case atStart => exact ⟨0, by omega, rfl, rfl⟩
  case round =>
    obtain ⟨k, hk, rfl, rfl⟩ := hrel
    by_cases hlt : (k : Int) < len
    · have HO := Lib.hid (ow_or' l HL.out k (by omega))
      have hcell := hF.out k (by omega)
      obtain ⟨b0, b1⟩ := HL.out k
      generalize l.getD k 0 = c at *
      go_wp2
      go_round
      case rel => exact ⟨k + 1, by omega, by go_num, by rw [HO.out]⟩
      case measure => simp [intOf]; omega
    · go_wp2
      go_ret
      exact ⟨S02.ret_int (by unfold BM.wo; rw [hlen.out, show min 4 len = k by omega]), rfl⟩
set_option maxHeartbeats 800000 in
theorem fw_high (g off len cap : Nat) (l : List Int) (w : World) (hl : BM.Bs l) (hlen : Hid (l.length = len)) (hgt : 4 < len) (hle : len ≤ 1000) (hF : Hid (∀ i : Nat, i < len → w.cell? ⟨g, off + i, none⟩ = some (.int .u8 (l.getD i 0)))) :
    Calls Tryz.prog 31 #[.slice (some ⟨g, off, none⟩) len cap] w fun e w' => e = .returned (.int .u32 (BM.wo l)) ∧ w = w' := by
  have HL := Lib.hid hl
  clear hl
  go_enter Tryz.func31, Tryz.ntmps31
  go_wp2
  go_loop [3, 8] (fun o i => ∃ k : Nat, (k : Int) ≤ 4 ∧ i = .int .i64 k ∧ o = .int .u32 (BM.ow l k)) (fun _ i => (4 - intOf i).toNat)
  case atStart => exact ⟨0, by omega, rfl, rfl⟩
  case round =>
    obtain ⟨k, hk, rfl, rfl⟩ := hrel
    by_cases hlt : (k : Int) < 4
    · have HO := Lib.hid (ow_or' l HL.out k (by omega))
      have hcell := hF.out k (by omega)
      have hlt' : (k : Int) < len := by omega
      obtain ⟨b0, b1⟩ := HL.out k
      generalize l.getD k 0 = c at *
      go_wp2
      go_round
      case rel => exact ⟨k + 1, by omega, by go_num, by rw [HO.out]⟩
      case measure => simp [intOf]; omega
    · go_wp2
      go_ret
      exact ⟨S02.ret_int (by unfold BM.wo; rw [hlen.out, show min 4 len = k by omega]), rfl⟩
theorem fword_any {w : World} {g off cap k : Nat} {bs : List UInt8} (hk : k < bs.length) (hl : bs.length ≤ 1000) (hc : ∀ j, j < bs.length → w.cell? ⟨g, off + j, none⟩ = some (.int .u8 (bs.getD j 0).toNat)) :
    Calls Tryz.prog 31 #[.slice (some ⟨g, off + k, none⟩) (bs.length - k) cap] w fun e w' => e = .returned (.int .u32 (lw bs k)) ∧ w = w' := by
  rw [← wo_lw]
  have h1 : (bi (bs.drop k)).length = bs.length - k := by unfold bi; rw [List.length_map, List.length_drop]
  have h2 : ∀ i : Nat, i < bs.length - k → w.cell? ⟨g, off + k + i, none⟩ = some (.int .u8 ((bi (bs.drop k)).getD i 0)) := fun i hi => by
    rw [Nat.add_assoc, hc (k + i) (by omega), bi_at, List.getD_eq_getElem?_getD, List.getD_eq_getElem?_getD, List.getElem?_drop]
  by_cases h : bs.length - k ≤ 4
  · exact fw_low g (off + k) _ cap _ w (bi_bs _) (Lib.hid h1) h (Lib.hid h2)
  · exact fw_high g (off + k) _ cap _ w (bi_bs _) (Lib.hid h1) (by omega) (by omega) (Lib.hid h2)
/-- The reference's word, byte by byte from the highest. -/
def rwd (bs : List UInt8) (k : Nat) : Nat → Nat
  | 0 => 0
  | j + 1 => rwd bs k j * 256 + (bs.getD (k + 3 - j) 0).toNat
theorem rwd_lt (bs : List UInt8) (k : Nat) : ∀ j, rwd bs k j < 256 ^ j
  | 0 => by simp [rwd]
  | j + 1 => by
    have := rwd_lt bs k j
    have h0 := (bs.getD (k + 3 - j) 0).toNat_lt
    rw [rwd, Nat.pow_succ]
    omega
theorem rwd_four (bs : List UInt8) (k : Nat) : rwd bs k 4 = lw bs k := by
  simp only [rwd, lw]
  rw [show k + 3 - 0 = k + 3 by omega, show k + 3 - 1 = k + 2 by omega, show k + 3 - 2 = k + 1 by omega, show k + 3 - 3 = k by omega]
  omega
set_option maxHeartbeats 1600000 in
theorem rword_any {w : World} {g off cap k n : Nat} {bs : List UInt8} (hn : Hid (bs.length = n)) (hk : k < n) (hl : n ≤ 1000) (hc : Hid (∀ j, j < n → w.cell? ⟨g, off + j, none⟩ = some (.int .u8 (bs.getD j 0).toNat))) :
    Calls Tryz.prog 32 #[.slice (some ⟨g, off, none⟩) n cap, .int .i64 k] w fun e w' => e = .returned (.int .u32 (lw bs k)) ∧ w = w' := by
  go_enter Tryz.func32, Tryz.ntmps32
  go_wp2
  go_loop [5, 6] (fun o i => (∃ j c : Nat, j + c = 3 ∧ i = .int .i64 c ∧ o = .int .u32 (rwd bs k j)) ∨ (i = .int .i64 (-1) ∧ o = .int .u32 (lw bs k))) (fun _ i => (intOf i + 1).toNat)
  case atStart => exact .inl ⟨0, 3, rfl, rfl, rfl⟩
  case round =>
    rcases hrel with ⟨j, c, hj, rfl, rfl⟩ | ⟨rfl, rfl⟩
    · have hb : (rwd bs k j : Int) * 256 < 4294967296 := by
        have HB := rwd_lt bs k j
        have : 256 ^ j ≤ 256 ^ 3 := Nat.pow_le_pow_right (by decide) (by omega)
        have : (256 : Nat) ^ 3 = 16777216 := rfl
        omega
      have HS := Lib.hid (show rwd bs k (j + 1) = rwd bs k j * 256 + (bs.getD (k + c) 0).toNat by rw [rwd, show k + 3 - j = k + c by omega])
      have HE := Lib.hid (fun (h : c = 0) => show rwd bs k (j + 1) = lw bs k by rw [show j + 1 = 4 by omega, rwd_four])
      have HJ := Lib.hid hj
      have hc3 : (c : Int) ≤ 3 := by omega
      clear hj
      generalize rwd bs k j = R at *
      by_cases hin : (k : Int) + c < n
      · have hcell := hc.out (k + c) (by omega)
        have hx := (bs.getD (k + c) 0).toNat_lt
        generalize (bs.getD (k + c) 0).toNat = x at *
        have hx' : (x : Int) < 256 := by omega
        clear hx
        go_wp2
        go_round
        case rel =>
          by_cases h0 : c = 0
          · exact .inr ⟨by subst h0; rfl, by rw [← HE.out h0, HS.out]; go_num⟩
          · exact .inl ⟨j + 1, c - 1, by have := HJ.out; omega, by go_num, by rw [HS.out]; go_num⟩
        case measure => simp [intOf]
      · have hin1 : decide ((k : Int) + c < n) = false := by simp; omega
        have hz : bs.getD (k + c) 0 = 0 := by rw [List.getD_eq_getElem?_getD, List.getElem?_eq_none (by rw [hn.out]; omega)]; rfl
        rw [hz, show (0 : UInt8).toNat = 0 from rfl, Nat.add_zero] at HS
        clear hz hin
        go_wp2
        go_round
        case rel =>
          by_cases h0 : c = 0
          · exact .inr ⟨by subst h0; rfl, by rw [← HE.out h0, HS.out]; exact congrArg (Value.int .u32) (by omega)⟩
          · exact .inl ⟨j + 1, c - 1, by have := HJ.out; omega, by go_num, by rw [HS.out]; exact congrArg (Value.int .u32) (by omega)⟩
        case measure => simp [intOf]
    · go_wp2
      go_ret
      exact ⟨rfl, rfl⟩
end Go.Proofs.YtcnmnkgnaknpdaaGreatDoor
/-! LsB -/
namespace Go.Proofs.YtcnmnkgnaknpdaaGreatDoor
open Go.RowKit Go.Maps S01 S02 S06 S07
/-- All that the program's variables hold. -/
def Tw (w : World) : Prop := Tb w ∧ Tabs w
theorem Tw.on {w w' : World} (h : Tw w) (hb : Below w.heap.size w w') : Tw w' := ⟨h.1.on hb, h.2.on hb⟩
theorem Tw.five {w : World} (h : Tw w) : 5 ≤ w.heap.size := S02.lt_of_cell h.2.2
def pq (x : Int) : List UInt8 := TX.pr (IM.ko x (IM.dO x)) (IM.ko x (IM.dD x)) (IM.ko x (IM.dA x)) (IM.ko x (IM.dB x)) (IM.ko x (IM.dI x))
def head (a x : Nat) : List UInt8 := NM.hxs a 8 ++ [58, 32] ++ NM.hxs x 8
/-- The line of a word in a listing. -/
def ent (a x : Nat) : List UInt8 := if IM.dc x = 0 then head a x ++ ([32, 32] ++ pq x) else head a x
theorem cat_eq {A B : ByteArray} {x y : List UInt8} (h1 : A.data.toList = x) (h2 : B.data.toList = y) : (A ++ B).data.toList = x ++ y := by rw [NM.data_app, h1, h2]
theorem str_of {A : ByteArray} {x : List UInt8} (h : A.data.toList = x) : Value.string A = .string ⟨x.toArray⟩ := by subst h; rfl
set_option maxHeartbeats 1600000 in
theorem entry_any (a x : Nat) (w : World) (ha : a < 4294967296) (hx : x < 4294967296) (ht : Tw w) : Calls Tryz.prog 30 #[.int .u32 a, .int .u32 x] w fun e w' => e = .returned (.string ⟨(ent a x).toArray⟩) ∧ Below w.heap.size w w' := by
  obtain ⟨A, hA, hA1, hA2⟩ := bt_of (NM.hxs a 8)
  obtain ⟨X, hX, hX1, hX2⟩ := bt_of (NM.hxs x 8)
  obtain ⟨Y, hY, hY1, hY2⟩ := bt_of (pq x)
  rw [NM.hxs_len] at hA2 hX2
  have hY3 : Y.size ≤ 100 := by rw [hY2]; exact TX.pr_len _ _ _ _ _
  have H1 := Lib.hid (fun (W : World) (h : Tw W) => hex_any a W ha h.2)
  have H2 := Lib.hid (fun (W : World) (h : Tw W) => hex_any x W hx h.2)
  rw [hA] at H1
  rw [hX] at H2
  have H3 := Lib.hid (fun W => S06.dec_any (x : Int) W (by omega) (by omega))
  have H4 := Lib.hid (fun (W : World) (h : Tw W) => print_any (IM.ko x (IM.dO x)) (IM.ko x (IM.dD x)) (IM.ko x (IM.dA x)) (IM.ko x (IM.dB x)) (IM.ko x (IM.dI x)) W h.1)
  change Hid (∀ (W : World) (h : Tw W), Calls Tryz.prog 18 _ W fun e w' => e = .returned (.string ⟨(pq x).toArray⟩) ∧ Below W.heap.size W w') at H4
  rw [hY] at H4
  have HT := Lib.hid ht
  have HA1 := Lib.hid hA1
  have HX1 := Lib.hid hX1
  have HY1 := Lib.hid hY1
  clear ht hA hA1 hX hX1 hY hY1 hY2
  generalize IM.ko x (IM.dO x) = i0 at *
  generalize IM.ko x (IM.dD x) = i1 at *
  generalize IM.ko x (IM.dA x) = i2 at *
  generalize IM.ko x (IM.dB x) = i3 at *
  generalize IM.ko x (IM.dI x) = i4 at *
  by_cases hd : IM.dc x = 0
  · have HE := Lib.hid (show ent a x = head a x ++ ([32, 32] ++ pq x) from if_pos hd)
    rw [hd] at H3
    clear hd
    go_enter Tryz.func30, Tryz.ntmps30
    go_wp2_with (first
      | (go_at_call 20; with_reducible refine (H1.out _ HT.out).mono ?_; rintro e w1 ⟨rfl, hb1⟩; have HB1 := Lib.hid hb1; clear hb1)
      | (go_at_call 20; with_reducible refine (H2.out _ (HT.out.on HB1.out)).mono ?_; rintro e w2 ⟨rfl, hb2⟩; have HB2 := Lib.hid (HB1.out.trans (hb2.mono HB1.out.size)); clear hb2)
      | (go_at_call 45; refine (H3.out _).mono ?_; rintro e w3 ⟨rfl, hb3⟩; have HB3 := Lib.hid (HB2.out.trans (hb3.mono HB2.out.size)); clear hb3)
      | (go_at_call 18; refine (H4.out _ (HT.out.on (HB3.out.alloc HB3.out.size _))).mono ?_; rintro e w4 ⟨rfl, hb4⟩; have HB4 := Lib.hid ((HB3.out.alloc HB3.out.size _).trans (hb4.mono (HB3.out.alloc HB3.out.size _).size)); clear hb4))
    go_ret
    refine ⟨S02.ret_str ?_, HB4.out⟩
    rw [HE.out]
    exact cat_eq (cat_eq (cat_eq HA1.out rfl) HX1.out) (cat_eq rfl HY1.out)
  · have HE := Lib.hid (show ent a x = head a x from if_neg hd)
    have hd1 : (IM.dc x == 0) = false := by simp [hd]
    generalize IM.dc x = D at *
    clear hd
    go_enter Tryz.func30, Tryz.ntmps30
    go_wp2_with (first
      | (go_at_call 20; with_reducible refine (H1.out _ HT.out).mono ?_; rintro e w1 ⟨rfl, hb1⟩; have HB1 := Lib.hid hb1; clear hb1)
      | (go_at_call 20; with_reducible refine (H2.out _ (HT.out.on HB1.out)).mono ?_; rintro e w2 ⟨rfl, hb2⟩; have HB2 := Lib.hid (HB1.out.trans (hb2.mono HB1.out.size)); clear hb2)
      | (go_at_call 45; refine (H3.out _).mono ?_; rintro e w3 ⟨rfl, hb3⟩; have HB3 := Lib.hid (HB2.out.trans (hb3.mono HB2.out.size)); clear hb3))
    go_ret
    refine ⟨S02.ret_str ?_, HB3.out.alloc HB3.out.size _⟩
    rw [HE.out]
    exact cat_eq (cat_eq HA1.out rfl) HX1.out
end Go.Proofs.YtcnmnkgnaknpdaaGreatDoor
/-! LsC -/
namespace Go.Proofs.YtcnmnkgnaknpdaaGreatDoor
open Go.RowKit Go.Maps S01 S02 S06 S07
/-- The first entries of a segment. -/
def ls1 (a : Nat) (bs : List UInt8) : Nat → List (List UInt8)
  | 0 => []
  | j + 1 => ls1 a bs j ++ [ent ((a + 4 * j) % 4294967296) (lw bs (4 * j))]
def lst : List (Nat × List UInt8) → List (List UInt8)
  | [] => []
  | p :: r => ls1 p.1 p.2 ((p.2.length + 3) / 4) ++ lst r
theorem lst_snoc (l : List (Nat × List UInt8)) (p : Nat × List UInt8) : lst (l ++ [p]) = lst l ++ ls1 p.1 p.2 ((p.2.length + 3) / 4) := by
  induction l with
  | nil => simp [lst]
  | cons x r ih => rw [List.cons_append, lst, lst, ih, List.append_assoc]
theorem ls1_len (a : Nat) (bs : List UInt8) : ∀ j, (ls1 a bs j).length = j
  | 0 => rfl
  | j + 1 => by rw [ls1, List.length_append, ls1_len a bs j]; rfl
theorem lst_len {l : List (Nat × List UInt8)} (h : ∀ p ∈ l, p.2.length ≤ 200) (hn : l.length ≤ 20) : (lst l).length ≤ 4000 := by
  suffices hh : ∀ l : List (Nat × List UInt8), (∀ p ∈ l, p.2.length ≤ 200) → (lst l).length ≤ 50 * l.length by have := hh l h; omega
  intro l
  induction l with
  | nil => intro _; simp [lst]
  | cons p r ih =>
    intro h
    have h1 := ih fun p hp => h p (List.mem_cons_of_mem _ hp)
    have h2 := h p (by simp)
    rw [lst, List.length_append, ls1_len, List.length_cons]
    omega
/-- A listing that is being made. -/
structure LJ (w wr : World) (st : Int) (sv v : Value) (acc : List (List UInt8)) : Prop where
  row : Row w wr v acc
  im : wr.heap[w.heap.size]? = some (.cells #[.int .u32 st, sv] 26 (0, 0))
theorem LJ.below {w wr w' : World} {st : Int} {sv v : Value} {acc : List (List UInt8)} (h : LJ w wr st sv v acc) (hb : Below wr.heap.size wr w') : LJ w w' st sv v acc :=
  ⟨⟨own_keep h.row.1 fun k hk => hb.block k (own_lt h.row.1 hk).2.1, h.row.2.trans (hb.mono h.row.2.size)⟩, (hb.block _ (lt_of_heap h.im)).trans h.im⟩
theorem LJ.app {w wn w1 : World} {st : Int} {sv v v' : Value} {acc : List (List UInt8)} {y : List UInt8} {o : Obj} {S : Nat} {cs : Array Value} (h : LJ w wn st sv v acc) (hS : wn.heap[S]? = some (.cells cs 49 (0, 0))) (hg : (wn.alloc o).grownBy w1 v.ownBlock) (ho : w1.ownsRow w.heap.size 9 1 v' (acc.length + 1) (acc.map NM.tv ++ [NM.tv y])) :
    LJ w w1 st sv v' (acc ++ [y]) ∧ w1.heap[S]? = some (.cells cs 49 (0, 0)) := by
  have kp : ∀ (k : Nat) (c : Array Value) (e : TypeId) (f : Nat × Nat), wn.heap[k]? = some (Obj.cells c e f) → e ≠ 9 → w1.heap[k]? = wn.heap[k]? := fun k c e f hk he => by
    rw [hg.block k (by have := lt_of_heap hk; simp; omega) (fun e' => ?_), Below.heap_alloc wn o k (lt_of_heap hk)]
    obtain ⟨_, _, c', hc'⟩ := own_lt h.row.1 e'.symm
    exact kind_ne hk hc' he rfl
  refine ⟨⟨⟨by rw [List.length_append, List.map_append]; exact ho, ?_⟩, (kp _ _ _ _ h.im (by decide)).trans h.im⟩, (kp _ _ _ _ hS (by decide)).trans hS⟩
  exact (h.row.2.alloc h.row.2.size o).grown hg (by have := h.row.2.size; simp; omega) fun k hk => (own_lt h.row.1 hk).1
theorem LJ.start (w : World) (st : Int) (sv : Value) : LJ w (w.alloc (.cells #[.int .u32 st, sv] 26)) st sv (.slice none 0 0) [] :=
  ⟨Row.nil ((Below.refl _ w).alloc (Nat.le_refl _) _), heap_alloc_new w _⟩
set_option maxHeartbeats 8000000 in
theorem listing_any {w : World} {st : Int} {sv : Value} {l : List (Nat × List UInt8)} (hs : SgR w sv l) (hn : l.length ≤ 20) (hd : ∀ p ∈ l, p.2.length ≤ 200) (ha : ∀ p ∈ l, p.1 < 4294967296) (ht : Tw w) :
    Calls Tryz.prog 15 #[.agg #[.int .u32 st, sv]] w fun e w' => ∃ v, e = .returned v ∧ Row w w' v (lst l) := by
  obtain ⟨i9, HI⟩ := info_parts str_info
  have HI := Lib.hid HI
  obtain ⟨n, hnn⟩ : ∃ n, l.length = n := ⟨_, rfl⟩
  obtain ⟨sa, sc, rfl⟩ : ∃ a c, sv = .slice a n c := by
    rcases hs with ⟨rfl, a, c, rfl⟩ | ⟨_, g, o, c, rfl, _⟩
    · exact ⟨a, c, by rw [← hnn]; rfl⟩
    · exact ⟨_, c, by rw [hnn]⟩
  have HS := Lib.hid (LJ.start w st (.slice sa n sc))
  have HG := Lib.hid hs
  have HD := Lib.hid hd
  have HAA := Lib.hid ha
  have HT := Lib.hid ht
  have HN := Lib.hid hnn
  have hn' : n ≤ 20 := by omega
  clear hs hd ha ht hnn hn
  go_enter Tryz.func15, Tryz.ntmps15
  go_wp2
  go_loopw [3, 10] (fun v i wr => ∃ k : Nat, k ≤ n ∧ i = .int .i64 k ∧ Hid (LJ w wr st (.slice sa n sc) v (lst (l.take k)))) (fun _ i _ => n - (intOf i).toNat)
  case atStart => exact ⟨0, by omega, rfl, HS⟩
  case round =>
    obtain ⟨k, hk, rfl, hR⟩ := hrel
    clear HS
    by_cases hlt : k < n
    · have hlt' : (k : Int) < n := by omega
      have hkl : k < l.length := by rw [HN.out]; exact hlt
      obtain ⟨⟨a, bs⟩, hp⟩ : ∃ p, l[k]? = some p := ⟨_, List.getElem?_eq_getElem hkl⟩
      have hmem : (a, bs) ∈ l := List.mem_of_getElem? hp
      have hbl := HD.out (a, bs) hmem
      have hal := HAA.out (a, bs) hmem
      simp only [] at hbl hal
      have HTK := Lib.hid (show l.take (k + 1) = l.take k ++ [(a, bs)] by rw [List.take_succ_eq_append_getElem hkl, List.getElem_eq_iff hkl |>.2 hp])
      obtain ⟨g, o, rfl, z1, d, z2, z3⟩ : ∃ g o, sa = some ⟨g, o, none⟩ ∧ w.cell? ⟨g, o + k * 2, none⟩ = some (.int .u32 a) ∧ ∃ d, w.cell? ⟨g, o + k * 2 + 1, none⟩ = some d ∧ ByR w d bs := by
        rcases HG.out with ⟨h, -⟩ | ⟨-, g, o, c, h, h3⟩
        · rw [h] at hkl; simp at hkl
        · injection h with h1 h2 h4
          obtain ⟨q1, d, q2, q3⟩ := h3 k _ hp
          exact ⟨g, o, h1, q1, d, q2, q3⟩
      obtain ⟨m, hm⟩ : ∃ m, bs.length = m := ⟨_, rfl⟩
      have HM := Lib.hid hm
      have hm2 : m ≤ 200 := by omega
      obtain ⟨da, dc, rfl⟩ : ∃ a c, d = .slice a m c := by
        rcases z3 with ⟨h, a, c, rfl⟩ | ⟨_, g, o, c, rfl, _⟩
        · exact ⟨a, c, by rw [← hm, h]; rfl⟩
        · exact ⟨_, c, by rw [hm]⟩
      have HZ3 := Lib.hid z3
      have y1 := cell_below hR.out.row.2 z1
      have y2 := cell_below hR.out.row.2 z2
      have yi0 := cell_of (o := 0) hR.out.im rfl
      have yi1 := cell_of (o := 1) hR.out.im rfl
      have HR2 := Lib.hid (hR.out.below ((Below.refl wr.heap.size wr).alloc (Nat.le_refl _) (.cells #[.int .u32 a, .slice da m dc] 49)))
      have HS2 := Lib.hid (heap_alloc_new wr (.cells #[.int .u32 a, .slice da m dc] 49))
      clear z1 z2 z3 hm hbl hp hmem hkl hR
      go_upto_region 5 with fail
      obtain ⟨S, hS⟩ : ∃ S, wr.heap.size = S := ⟨_, rfl⟩
      obtain ⟨W1, hW1⟩ : ∃ W1, wr.alloc (.cells #[.int .u32 a, .slice da m dc] 49) = W1 := ⟨_, rfl⟩
      rw [hW1] at HR2 HS2 ⊢
      rw [hS] at HS2 ⊢
      clear y1 y2 yi0 yi1 hS hW1
      obtain ⟨A0, hA0⟩ : ∃ A0, lst (l.take k) = A0 := ⟨_, rfl⟩
      rw [hA0] at HR2
      have HA0 := Lib.hid hA0
      have hA0n : A0.length ≤ 4000 := by
        rw [← hA0]
        exact lst_len (fun p hp => HD.out p (List.mem_of_mem_take hp)) (by rw [List.length_take]; omega)
      clear hA0
      go_wp2
      go_loopw [3, 6] (fun v i wx => ∃ f j : Nat, Hid (f = 4 * j) ∧ f < m + 4 ∧ i = .int .i64 f ∧ Hid (LJ w wx st (.slice (some ⟨g, o, none⟩) n sc) v (A0 ++ ls1 a bs j)) ∧ Hid (wx.heap[S]? = some (.cells #[.int .u32 a, .slice da m dc] 49 (0, 0)))) (fun _ i _ => m + 4 - (intOf i).toNat)
      case atStart => exact ⟨0, 0, rfl, by omega, rfl, by rw [show A0 ++ ls1 a bs 0 = A0 from List.append_nil _]; exact HR2, HS2⟩
      case round =>
        obtain ⟨f, j, hj, hf, rfl, hR, hS⟩ := hrel
        clear HR2 HS2
        have s0 := cell_of (o := 0) hS.out rfl
        have s1 := cell_of (o := 1) hS.out rfl
        by_cases hlf : (f : Int) < m
        · have hfm : f < bs.length := by rw [HM.out]; omega
          obtain ⟨g2, o2, rfl, hc1, hc2, hcell⟩ : ∃ g o, da = some ⟨g, o, none⟩ ∧ m ≤ dc ∧ dc ≤ maxLen ∧ ∀ j, j < bs.length → w.cell? ⟨g, o + j, none⟩ = some (.int .u8 (bs.getD j 0).toNat) := by
            rcases HZ3.out with ⟨h, -⟩ | ⟨-, g, o, c, h, h1, h2, h3⟩
            · rw [h] at hfm; simp at hfm
            · injection h with e1 e2 e3
              subst e3
              exact ⟨g, o, e1, by rw [← HM.out]; exact h1, h2, h3⟩
          unfold maxLen at hc2
          have hcf : ¬ dc = f := by omega
          have HFW := Lib.hid (fword_any (w := wr.drew) (cap := dc - f) hfm (by rw [HM.out]; omega) (fun j hj => cell_below hR.out.row.2.drew (hcell j hj)))
          rw [HM.out] at HFW
          obtain ⟨A', hA'⟩ : ∃ A', (a + f) % 4294967296 = A' := ⟨_, rfl⟩
          obtain ⟨X', hX'⟩ : ∃ X', lw bs f = X' := ⟨_, rfl⟩
          obtain ⟨Y, hY, hY1, hY2⟩ := bt_of (ent A' X')
          have HEN := Lib.hid (entry_any A' X' wr.drew (by omega) (by have := lw_lt bs f; omega) (HT.out.on hR.out.row.2.drew))
          rw [hY] at HEN
          rw [hX'] at HFW
          have HAI := Lib.hid (show IntKind.u32.wrap ((a : Int) + IntKind.u32.wrap f) = (A' : Int) by rw [IntKind.wrap_u32, IntKind.wrap_u32]; omega)
          have hle : f ≤ m := by omega
          have HYY := Lib.hid (show NM.tv (ent A' X') = .string Y by rw [← hY]; rfl)
          have HL := Lib.hid (show ls1 a bs (j + 1) = ls1 a bs j ++ [ent A' X'] by rw [ls1, ← hj.out, hA', hX'])
          have hj60 : j ≤ 60 := by have := hj.out; omega
          obtain ⟨q, hq⟩ : ∃ q, (A0 ++ ls1 a bs j).length = q := ⟨_, rfl⟩
          have hq1 : q ≤ 5000 := by rw [← hq, List.length_append, ls1_len]; omega
          have HQ := Lib.hid hq
          clear hfm hcell hA' hX' hY hY1 hY2 hq hj60
          go_upto_region 8 with fail
          go_region_law (first
            | (go_simp; go_at_call 31; refine HFW.out.mono ?_; rintro e w2 ⟨rfl, rfl⟩)
            | (go_simp; go_at_call 30; rw [HAI.out]; refine HEN.out.mono ?_; rintro e w3 ⟨rfl, hb3⟩; have HJ3 := Lib.hid (hR.out.below (show Below wr.heap.size wr w3 from (below_drewN' wr 1).trans hb3)); have HS3 := Lib.hid ((hb3.block S (lt_of_heap hS.out)).trans hS.out); have HL3 := Lib.hid (show (w3.alloc (.cells #[.string Y] 9)).ownsRow w.heap.size 9 1 _ q ((A0 ++ ls1 a bs j).map NM.tv) from HQ.out ▸ HJ3.out.row.1.alloc _); have HN3 := Lib.hid (show w.heap.size ≤ (w3.alloc (.cells #[.string Y] 9)).heap.size by have := HJ3.out.row.2.size; simp; omega); clear hb3)
            | (refine step_append_lies _ rfl (.tmp 21) (.tmp 33) 38 rfl w.heap.size 9 i9 (.string ⟨#[]⟩) 1 16 Tryz.underlying38 HI.out.1 HI.out.2.1 HI.out.2.2.1 HI.out.2.2.2 rfl (by decide) _ q ((A0 ++ ls1 a bs j).map NM.tv) (by simp [Act.eval]) HL3.out ⟨w3.heap.size, 0, none⟩ 1 1 [.string Y] (by simp [Act.eval]) rfl (cell_one_new w3 _ 9) (one_str Y) (by decide) (by unfold maxLen; omega) (by omega) HN3.out (w3.heap.size + 1) (by simp) ?_; intro g' cap' w4 ho4 hg4 hv4 hl4))
          all_goals
            obtain ⟨q1, q2⟩ := HJ3.out.app HS3.out hg4 (y := ent A' X') (by rw [HQ.out, HYY.out]; exact ho4)
            have HQ1 := Lib.hid q1
            have HQ2 := Lib.hid q2
            clear q1 q2 ho4 hg4 hv4 hl4
            rw [List.append_assoc, ← HL.out] at HQ1
            go_wp2
            go_roundw
            case rel => exact ⟨f + 4, j + 1, Lib.hid (by have := hj.out; omega), by omega, by go_num, HQ1, HQ2⟩
            case measure => simp [intOf]; omega
        · have hlf' : decide (f < m) = false := by simp; omega
          have HF := Lib.hid (show lst (l.take (k + 1)) = A0 ++ ls1 a bs j by
            rw [HTK.out, lst_snoc, HA0.out, HM.out, show (m + 3) / 4 = j by have := hj.out; omega])
          clear hlf
          go_wp2
          go_roundw
          case rel => exact ⟨k + 1, by omega, by go_num, by rw [HF.out]; exact hR⟩
          case measure => simp [intOf]; omega
    · have hlt' : decide (k < n) = false := by simpa using hlt
      obtain rfl : k = n := by omega
      have HF := Lib.hid (show l.take k = l by rw [← HN.out, List.take_length])
      rw [HF.out] at hR
      clear hlt
      go_wp2
      go_ret
      exact ⟨_, rfl, hR.out.row⟩
end Go.Proofs.YtcnmnkgnaknpdaaGreatDoor
/-! LsD -/
namespace Go.Proofs.YtcnmnkgnaknpdaaGreatDoor
open Go.RowKit Go.Maps S01 S02 S06 S07
theorem new_at (w : World) (x : Value) (t : TypeId) (N : Nat) (h : w.heap.size = N) : ∀ j u, [x][j]? = some u → (w.alloc (.cells #[x] t)).cell? ((⟨N, 0, none⟩ : Addr).add j) = some u := by subst h; exact S02.new_cell w x t
theorem LJ.fresh (w : World) (st : Int) (sv : Value) : LJ w ((w.alloc (.cells #[.int .u32 st, sv] 26)).alloc (.cells #[] 9)) st sv (.slice (some ⟨w.heap.size + 1, 0, none⟩) 0 0) [] := by
  have h := Row.fresh ((Below.refl _ w).alloc (Nat.le_refl _) (.cells #[.int .u32 st, sv] 26))
  have e : (w.alloc (.cells #[.int .u32 st, sv] 26)).heap.size = w.heap.size + 1 := by simp
  rw [e] at h
  exact ⟨h, (Below.heap_alloc _ _ _ (by omega)).trans (heap_alloc_new w _)⟩
set_option maxHeartbeats 8000000 in
theorem rlisting_any {w : World} {st : Int} {sv : Value} {l : List (Nat × List UInt8)} (hs : SgR w sv l) (hn : l.length ≤ 20) (hd : ∀ p ∈ l, p.2.length ≤ 200) (ha : ∀ p ∈ l, p.1 < 4294967296) (ht : Tw w) :
    Calls Tryz.prog 16 #[.agg #[.int .u32 st, sv]] w fun e w' => ∃ v, e = .returned v ∧ Row w w' v (lst l) := by
  obtain ⟨i9, HI⟩ := info_parts str_info
  have HI := Lib.hid HI
  obtain ⟨n, hnn⟩ : ∃ n, l.length = n := ⟨_, rfl⟩
  obtain ⟨sa, sc, rfl⟩ : ∃ a c, sv = .slice a n c := by
    rcases hs with ⟨rfl, a, c, rfl⟩ | ⟨_, g, o, c, rfl, _⟩
    · exact ⟨a, c, by rw [← hnn]; rfl⟩
    · exact ⟨_, c, by rw [hnn]⟩
  have HS := Lib.hid (LJ.fresh w st (.slice sa n sc))
  have HG := Lib.hid hs
  have HD := Lib.hid hd
  have HAA := Lib.hid ha
  have HT := Lib.hid ht
  have HN := Lib.hid hnn
  have hn' : n ≤ 20 := by omega
  clear hs hd ha ht hnn hn
  go_enter Tryz.func16, Tryz.ntmps16
  go_wp2
  go_loopw [3, 4] (fun v i wr => ∃ k : Nat, k ≤ n ∧ i = .int .i64 k ∧ Hid (LJ w wr st (.slice sa n sc) v (lst (l.take k)))) (fun _ i _ => n - (intOf i).toNat)
  case atStart => exact ⟨0, by omega, rfl, HS⟩
  case round =>
    obtain ⟨k, hk, rfl, hR⟩ := hrel
    clear HS
    by_cases hlt : k < n
    · have hlt' : (k : Int) < n := by omega
      have hkl : k < l.length := by rw [HN.out]; exact hlt
      obtain ⟨⟨a, bs⟩, hp⟩ : ∃ p, l[k]? = some p := ⟨_, List.getElem?_eq_getElem hkl⟩
      have hmem : (a, bs) ∈ l := List.mem_of_getElem? hp
      have hbl := HD.out (a, bs) hmem
      have hal := HAA.out (a, bs) hmem
      simp only [] at hbl hal
      have HTK := Lib.hid (show l.take (k + 1) = l.take k ++ [(a, bs)] by rw [List.take_succ_eq_append_getElem hkl, List.getElem_eq_iff hkl |>.2 hp])
      obtain ⟨g, o, rfl, z1, d, z2, z3⟩ : ∃ g o, sa = some ⟨g, o, none⟩ ∧ w.cell? ⟨g, o + k * 2, none⟩ = some (.int .u32 a) ∧ ∃ d, w.cell? ⟨g, o + k * 2 + 1, none⟩ = some d ∧ ByR w d bs := by
        rcases HG.out with ⟨h, -⟩ | ⟨-, g, o, c, h, h3⟩
        · rw [h] at hkl; simp at hkl
        · injection h with h1 h2 h4
          obtain ⟨q1, d, q2, q3⟩ := h3 k _ hp
          exact ⟨g, o, h1, q1, d, q2, q3⟩
      obtain ⟨m, hm⟩ : ∃ m, bs.length = m := ⟨_, rfl⟩
      have HM := Lib.hid hm
      have hm2 : m ≤ 200 := by omega
      obtain ⟨da, dc, rfl⟩ : ∃ a c, d = .slice a m c := by
        rcases z3 with ⟨h, a, c, rfl⟩ | ⟨_, g, o, c, rfl, _⟩
        · exact ⟨a, c, by rw [← hm, h]; rfl⟩
        · exact ⟨_, c, by rw [hm]⟩
      have HZ3 := Lib.hid z3
      have y1 := cell_below hR.out.row.2 z1
      have y2 := cell_below hR.out.row.2 z2
      have yi0 := cell_of (o := 0) hR.out.im rfl
      have yi1 := cell_of (o := 1) hR.out.im rfl
      have HR2 := Lib.hid (hR.out.below ((Below.refl wr.heap.size wr).alloc (Nat.le_refl _) (.cells #[.int .u32 a, .slice da m dc] 49)))
      have HS2 := Lib.hid (heap_alloc_new wr (.cells #[.int .u32 a, .slice da m dc] 49))
      clear z1 z2 z3 hm hbl hp hmem hkl hR
      go_upto_region 6 with fail
      obtain ⟨S, hS⟩ : ∃ S, wr.heap.size = S := ⟨_, rfl⟩
      obtain ⟨W1, hW1⟩ : ∃ W1, wr.alloc (.cells #[.int .u32 a, .slice da m dc] 49) = W1 := ⟨_, rfl⟩
      rw [hW1] at HR2 HS2 ⊢
      rw [hS] at HS2 ⊢
      clear y1 y2 yi0 yi1 hS hW1
      obtain ⟨A0, hA0⟩ : ∃ A0, lst (l.take k) = A0 := ⟨_, rfl⟩
      rw [hA0] at HR2
      have HA0 := Lib.hid hA0
      have hA0n : A0.length ≤ 4000 := by
        rw [← hA0]
        exact lst_len (fun p hp => HD.out p (List.mem_of_mem_take hp)) (by rw [List.length_take]; omega)
      clear hA0
      go_wp2
      go_loopw [3, 6] (fun v i wx => ∃ f j : Nat, Hid (f = 4 * j) ∧ f < m + 4 ∧ i = .int .i64 f ∧ Hid (LJ w wx st (.slice (some ⟨g, o, none⟩) n sc) v (A0 ++ ls1 a bs j)) ∧ Hid (wx.heap[S]? = some (.cells #[.int .u32 a, .slice da m dc] 49 (0, 0)))) (fun _ i _ => m + 4 - (intOf i).toNat)
      case atStart => exact ⟨0, 0, rfl, by omega, rfl, by rw [show A0 ++ ls1 a bs 0 = A0 from List.append_nil _]; exact HR2, HS2⟩
      case round =>
        obtain ⟨f, j, hj, hf, rfl, hR, hS⟩ := hrel
        clear HR2 HS2
        have s0 := cell_of (o := 0) hS.out rfl
        have s1 := cell_of (o := 1) hS.out rfl
        by_cases hlf : (f : Int) < m
        · have hfm : f < bs.length := by rw [HM.out]; omega
          obtain ⟨g2, o2, rfl, hc1, hc2, hcell⟩ : ∃ g o, da = some ⟨g, o, none⟩ ∧ m ≤ dc ∧ dc ≤ maxLen ∧ ∀ j, j < bs.length → w.cell? ⟨g, o + j, none⟩ = some (.int .u8 (bs.getD j 0).toNat) := by
            rcases HZ3.out with ⟨h, -⟩ | ⟨-, g, o, c, h, h1, h2, h3⟩
            · rw [h] at hfm; simp at hfm
            · injection h with e1 e2 e3
              subst e3
              exact ⟨g, o, e1, by rw [← HM.out]; exact h1, h2, h3⟩
          unfold maxLen at hc2
          have hcf : ¬ dc = f := by omega
          have HFW := Lib.hid (rword_any (w := wr) (cap := dc) (bs := bs) HM (show f < m by omega) (by omega) (Lib.hid (fun j hj => cell_below hR.out.row.2 (hcell j (by rw [HM.out]; exact hj)))))
          obtain ⟨A', hA'⟩ : ∃ A', (a + f) % 4294967296 = A' := ⟨_, rfl⟩
          obtain ⟨X', hX'⟩ : ∃ X', lw bs f = X' := ⟨_, rfl⟩
          rw [hX'] at HFW
          have hXl : X' < 4294967296 := by have := lw_lt bs f; omega
          have HAI : ((a : Int) + f) % 4294967296 = (A' : Int) := by omega
          obtain ⟨B1, hB1, hB2, hB3⟩ := bt_of (NM.hxs A' 8)
          obtain ⟨C1, hC1, hC2, hC3⟩ := bt_of (NM.hxs X' 8)
          obtain ⟨D1, hD1, hD2, hD3⟩ := bt_of (pq X')
          rw [NM.hxs_len] at hB3 hC3
          have hD4 : D1.size ≤ 100 := by rw [hD3]; exact TX.pr_len _ _ _ _ _
          have H1 := Lib.hid (fun W => rhexs_any A' W (by omega))
          have H2 := Lib.hid (fun W => rhexs_any X' W hXl)
          rw [hB1] at H1
          rw [hC1] at H2
          have H3 := Lib.hid (fun W => S06.rdec_any (X' : Int) W (by omega) (by omega))
          have H4 := Lib.hid (fun W => rprint_any (IM.ko X' (IM.dO X')) (IM.ko X' (IM.dD X')) (IM.ko X' (IM.dA X')) (IM.ko X' (IM.dB X')) (IM.ko X' (IM.dI X')) W)
          change Hid (∀ (W : World), Calls Tryz.prog 35 _ W fun e w' => e = .returned (.string ⟨(pq X').toArray⟩) ∧ Below W.heap.size W w') at H4
          rw [hD1] at H4
          have HL := Lib.hid (show ls1 a bs (j + 1) = ls1 a bs j ++ [ent A' X'] by rw [ls1, ← hj.out, hA', hX'])
          have hj60 : j ≤ 60 := by have := hj.out; omega
          obtain ⟨q, hq⟩ : ∃ q, (A0 ++ ls1 a bs j).length = q := ⟨_, rfl⟩
          have hq1 : q ≤ 5000 := by rw [← hq, List.length_append, ls1_len]; omega
          have HQ := Lib.hid hq
          obtain ⟨ms, hms⟩ : ∃ ms, (A0 ++ ls1 a bs j).map NM.tv = ms := ⟨_, rfl⟩
          have HMS := Lib.hid hms
          have HOW := Lib.hid (fun (W : World) (hb : Below wr.heap.size wr W) (o : Obj) => show (W.alloc o).ownsRow w.heap.size 9 1 _ q ms from hms ▸ hq ▸ (hR.out.below hb).row.1.alloc o)
          have HSZ := Lib.hid (fun (W : World) (hb : Below wr.heap.size wr W) (o : Obj) => show w.heap.size ≤ (W.alloc o).heap.size by have := (hR.out.below hb).row.2.size; simp; omega)
          clear hms
          have HYY := Lib.hid (fun (h : IM.dc X' = 0) => show NM.tv (ent A' X') = .string (((B1 ++ ⟨#[58, 32]⟩) ++ C1) ++ ⟨#[32, 32]⟩ ++ D1) by
            rw [show ent A' X' = head A' X' ++ ([32, 32] ++ pq X') from if_pos h, ← List.append_assoc]
            have e : ((((B1 ++ ⟨#[58, 32]⟩) ++ C1) ++ ⟨#[32, 32]⟩) ++ D1).data.toList = head A' X' ++ [32, 32] ++ pq X' := cat_eq (cat_eq (cat_eq (cat_eq hB2 rfl) hC2) rfl) hD2
            exact (str_of e).symm)
          have HYN := Lib.hid (fun (h : ¬ IM.dc X' = 0) => show NM.tv (ent A' X') = .string ((B1 ++ ⟨#[58, 32]⟩) ++ C1) by
            rw [show ent A' X' = head A' X' from if_neg h]
            have e : ((B1 ++ ⟨#[58, 32]⟩) ++ C1).data.toList = head A' X' := cat_eq (cat_eq hB2 rfl) hC2
            exact (str_of e).symm)
          clear hcell hfm hA' hX' hB1 hB2 hC1 hC2 hD1 hD2 hD3 hq hj60
          generalize IM.ko X' (IM.dO X') = i0 at *
          generalize IM.ko X' (IM.dD X') = i1 at *
          generalize IM.ko X' (IM.dA X') = i2 at *
          generalize IM.ko X' (IM.dB X') = i3 at *
          generalize IM.ko X' (IM.dI X') = i4 at *
          by_cases hd : IM.dc X' = 0
          · have HZ := Lib.hid (HYY.out hd)
            rw [hd] at H3
            clear hd HYY HYN
            go_wp2_with (first
            | (go_at_call 32; refine HFW.out.mono ?_; rintro e w2 ⟨rfl, rfl⟩)
            | (go_at_call 33; with_reducible refine (H1.out _).mono ?_; rintro e w4 ⟨rfl, hb4⟩; have HB4 := Lib.hid hb4; clear hb4)
            | (go_at_call 33; with_reducible refine (H2.out _).mono ?_; rintro e w5 ⟨rfl, hb5⟩; have HB5 := Lib.hid (HB4.out.trans (hb5.mono HB4.out.size)); clear hb5)
            | (go_at_call 34; refine (H3.out _).mono ?_; rintro e w6 ⟨rfl, hb6⟩; have HB6 := Lib.hid ((HB5.out.trans (hb6.mono HB5.out.size)).alloc (HB5.out.trans (hb6.mono HB5.out.size)).size (.cells #[.int .i64 i0, .int .i64 i1, .int .i64 i2, .int .i64 i3, .int .i64 i4] 45)); clear hb6)
            | (go_at_call 35; refine (H4.out _).mono ?_; rintro e w7 ⟨rfl, hb7⟩; have HB7 := Lib.hid (HB6.out.trans (hb7.mono HB6.out.size)); clear hb7)
            | (at_builtin; refine wpList_append_lies _ rfl _ _ 38 rfl w.heap.size 9 i9 (.string ⟨#[]⟩) 1 16 Tryz.underlying38 HI.out.1 HI.out.2.1 HI.out.2.2.1 HI.out.2.2.2 rfl (by decide) _ q ms rfl (HOW.out _ HB7.out _) ⟨_, 0, none⟩ 1 1 [.string _] rfl rfl (S02.new_cell _ _ _) (S02.one_str _) (by decide) (by unfold maxLen; omega) (by omega) (HSZ.out _ HB7.out _) _ rfl ?_))
            intro g' cap' w9 ho9 hg9 hv9 hl9
            have HJ3 := hR.out.below HB7.out
            have HS3 := (Below.block HB7.out S (lt_of_heap hS.out)).trans hS.out
            obtain ⟨q1, q2⟩ := HJ3.app HS3 hg9 (y := ent A' X') (by rw [HQ.out, HMS.out, HZ.out]; exact ho9)
            have HQ1 := Lib.hid q1
            have HQ2 := Lib.hid q2
            clear q1 q2 ho9 hg9 hv9 hl9
            rw [List.append_assoc, ← HL.out] at HQ1
            go_wp2
            go_roundw
            case rel => exact ⟨f + 4, j + 1, Lib.hid (by have := hj.out; omega), by omega, by go_num, HQ1, HQ2⟩
            case measure => simp [intOf]; omega
          · have HZ := Lib.hid (HYN.out hd)
            have hd1 : (IM.dc X' == 0) = false := by simp [hd]
            generalize IM.dc X' = D at *
            clear hd HYY HYN
            go_wp2_with (first
            | (go_at_call 32; refine HFW.out.mono ?_; rintro e w2 ⟨rfl, rfl⟩)
            | (go_at_call 33; with_reducible refine (H1.out _).mono ?_; rintro e w4 ⟨rfl, hb4⟩; have HB4 := Lib.hid hb4; clear hb4)
            | (go_at_call 33; with_reducible refine (H2.out _).mono ?_; rintro e w5 ⟨rfl, hb5⟩; have HB5 := Lib.hid (HB4.out.trans (hb5.mono HB4.out.size)); clear hb5)
            | (go_at_call 34; refine (H3.out _).mono ?_; rintro e w6 ⟨rfl, hb6⟩; have HB6 := Lib.hid ((HB5.out.trans (hb6.mono HB5.out.size)).alloc (HB5.out.trans (hb6.mono HB5.out.size)).size (.cells #[.int .i64 i0, .int .i64 i1, .int .i64 i2, .int .i64 i3, .int .i64 i4] 45)); clear hb6)
            | (at_builtin; refine wpList_append_lies _ rfl _ _ 38 rfl w.heap.size 9 i9 (.string ⟨#[]⟩) 1 16 Tryz.underlying38 HI.out.1 HI.out.2.1 HI.out.2.2.1 HI.out.2.2.2 rfl (by decide) _ q ms rfl (HOW.out _ HB6.out _) ⟨_, 0, none⟩ 1 1 [.string _] rfl rfl (new_at _ _ _ _ (by simp)) (S02.one_str _) (by decide) (by unfold maxLen; omega) (by omega) (HSZ.out _ HB6.out _) _ rfl ?_))
            intro g' cap' w9 ho9 hg9 hv9 hl9
            have HJ3 := hR.out.below HB6.out
            have HS3 := (Below.block HB6.out S (lt_of_heap hS.out)).trans hS.out
            obtain ⟨q1, q2⟩ := HJ3.app HS3 hg9 (y := ent A' X') (by rw [HQ.out, HMS.out, HZ.out]; exact ho9)
            have HQ1 := Lib.hid q1
            have HQ2 := Lib.hid q2
            clear q1 q2 ho9 hg9 hv9 hl9
            rw [List.append_assoc, ← HL.out] at HQ1
            go_wp2
            go_roundw
            case rel => exact ⟨f + 4, j + 1, Lib.hid (by have := hj.out; omega), by omega, by go_num, HQ1, HQ2⟩
            case measure => simp [intOf]; omega
        · have hlf' : decide (f < m) = false := by simp; omega
          have HF := Lib.hid (show lst (l.take (k + 1)) = A0 ++ ls1 a bs j by
            rw [HTK.out, lst_snoc, HA0.out, HM.out, show (m + 3) / 4 = j by have := hj.out; omega])
          clear hlf
          go_wp2
          go_roundw
          case rel => exact ⟨k + 1, by omega, by go_num, by rw [HF.out]; exact hR⟩
          case measure => simp [intOf]; omega
    · have hlt' : decide (k < n) = false := by simpa using hlt
      obtain rfl : k = n := by omega
      have HF := Lib.hid (show l.take k = l by rw [← HN.out, List.take_length])
      rw [HF.out] at hR
      have yi1 := cell_of (o := 1) hR.out.im rfl
      clear hlt
      go_wp2
      go_ret
      exact ⟨_, rfl, hR.out.row⟩
end Go.Proofs.YtcnmnkgnaknpdaaGreatDoor
/-! LsE -/
namespace Go.Proofs.YtcnmnkgnaknpdaaGreatDoor
open Go.RowKit Go.Maps S01 S02 S06 S07
theorem texts_none (ao bo : Option Addr) (c d : Nat) (w : World) :
    Calls Tryz.prog 14 #[.slice ao 0 c, .slice bo 0 d] w fun e w' => e = .returned (.bool true) ∧ S02.Dr w w' := by
  go_enter Tryz.func14, Tryz.ntmps14
  go_wp2
  refine wp_loop_rounds 1 ?_
  rw [rounds_succ]
  go_wp2
  go_ret
  exact ⟨rfl, S02.Dr.refl _⟩
set_option maxHeartbeats 800000 in
theorem texts_some (g h n c d : Nat) (l : List (List UInt8)) (w : World) (hn : n ≤ 100000) (H1 : Hid (∀ i, i < n → w.cell? ⟨g, i, none⟩ = some (NM.tv (l.getD i [])))) (H2 : Hid (∀ i, i < n → w.cell? ⟨h, i, none⟩ = some (NM.tv (l.getD i [])))) :
    Calls Tryz.prog 14 #[.slice (some ⟨g, 0, none⟩) n c, .slice (some ⟨h, 0, none⟩) n d] w fun e w' => e = .returned (.bool true) ∧ S02.Dr w w' := by
  go_enter Tryz.func14, Tryz.ntmps14
  go_wp2
  go_loopw [5] (fun i wr => ∃ k : Nat, k ≤ n ∧ i = .int .i64 k ∧ S02.Dr w wr) (fun i _ => n - (intOf i).toNat)
  case atStart => exact ⟨0, by omega, rfl, S02.Dr.refl _⟩
  case round =>
    obtain ⟨k, hk, rfl, hdr⟩ := hrel
    by_cases hlt : k < n
    · have h1 := (hdr.cell _).trans (H1.out k (by omega))
      have h2 := (hdr.cell _).trans (H2.out k (by omega))
      have HD := Lib.hid hdr
      clear hdr
      unfold NM.tv at h1 h2
      generalize (⟨(l.getD k []).toArray⟩ : ByteArray) = x at *
      go_wp2
      go_quiet (fail)
      go_wp2
      go_roundw
      case rel => exact ⟨k + 1, by omega, by go_num, HD.out.more _⟩
      case measure => simp [intOf]; omega
    · have HD := Lib.hid hdr
      clear hdr
      go_wp2
      go_ret
      exact ⟨rfl, HD.out⟩
theorem texts_own (x y : Value) (B C : Nat) (l : List (List UInt8)) (w : World) (hn : l.length ≤ 100000) (hx : w.ownsRow B 9 1 x l.length (l.map NM.tv)) (hy : w.ownsRow C 9 1 y l.length (l.map NM.tv)) :
    Calls Tryz.prog 14 #[x, y] w fun e w' => e = .returned (.bool true) ∧ S02.Dr w w' := by
  generalize hn' : l.length = n at *
  rcases S02.own_open hx with ⟨h0, ao, c, rfl⟩ | ⟨g, c, rfl, h1⟩
  · rcases S02.own_open hy with ⟨_, bo, d, rfl⟩ | ⟨h, d, rfl, h2⟩
    · exact texts_none ao bo c d w
    · subst h0; exact texts_none ao _ c d w
  · rcases S02.own_open hy with ⟨h0, bo, d, rfl⟩ | ⟨h, d, rfl, h2⟩
    · subst h0; exact texts_none _ bo c d w
    · exact texts_some g h n c d l w hn h1 h2
/-- Has an image few bytes? -/
def fw (l : List (Nat × List UInt8)) : Bool := decide (l.length ≤ 20) && l.all fun p => decide (p.2.length ≤ 200)
set_option maxHeartbeats 1600000 in
theorem few_any {w : World} {st : Int} {sv : Value} {l : List (Nat × List UInt8)} (hs : SgR w sv l) :
    Calls Tryz.prog 13 #[.agg #[.int .u32 st, sv]] w fun e w' => e = .returned (.bool (fw l)) ∧ Below w.heap.size w w' := by
  obtain ⟨n, hnn⟩ : ∃ n, l.length = n := ⟨_, rfl⟩
  obtain ⟨sa, sc, rfl⟩ : ∃ a c, sv = .slice a n c := by
    rcases hs with ⟨rfl, a, c, rfl⟩ | ⟨_, g, o, c, rfl, _⟩
    · exact ⟨a, c, by rw [← hnn]; rfl⟩
    · exact ⟨_, c, by rw [hnn]⟩
  have HG := Lib.hid hs
  have HN := Lib.hid hnn
  clear hs hnn
  by_cases h20 : (n : Int) ≤ 20
  · go_enter Tryz.func13, Tryz.ntmps13
    go_wp2
    go_loop [3] (fun i => ∃ k : Nat, k ≤ n ∧ i = .int .i64 k ∧ Hid ((l.take k).all (fun p => decide (p.2.length ≤ 200)) = true)) (fun i => n - (intOf i).toNat)
    case atStart => exact ⟨0, by omega, rfl, rfl⟩
    case round =>
      obtain ⟨k, hk, rfl, hR⟩ := hrel
      by_cases hlt : k < n
      · have hkl : k < l.length := by rw [HN.out]; exact hlt
        obtain ⟨⟨a, bs⟩, hp⟩ : ∃ p, l[k]? = some p := ⟨_, List.getElem?_eq_getElem hkl⟩
        have htk : l.take (k + 1) = l.take k ++ [(a, bs)] := by rw [List.take_succ_eq_append_getElem hkl, List.getElem_eq_iff hkl |>.2 hp]
        obtain ⟨g, o, rfl, d, z2, z3⟩ : ∃ g o, sa = some ⟨g, o, none⟩ ∧ ∃ d, w.cell? ⟨g, o + k * 2 + 1, none⟩ = some d ∧ ByR w d bs := by
          rcases HG.out with ⟨h, -⟩ | ⟨-, g, o, c, h, h3⟩
          · rw [h] at hkl; simp at hkl
          · injection h with h1 h2 h4
            obtain ⟨q1, d, q2, q3⟩ := h3 k _ hp
            exact ⟨g, o, h1, d, q2, q3⟩
        obtain ⟨m, hm⟩ : ∃ m, bs.length = m := ⟨_, rfl⟩
        obtain ⟨da, dc, rfl⟩ : ∃ a c, d = .slice a m c := by
          rcases z3 with ⟨h, a, c, rfl⟩ | ⟨_, g, o, c, rfl, _⟩
          · exact ⟨a, c, by rw [← hm, h]; rfl⟩
          · exact ⟨_, c, by rw [hm]⟩
        have z4 : ∀ ob, (w.alloc ob).cell? ⟨g, o + k * 2 + 1, none⟩ = some (.slice da m dc) := fun ob => cell_below ((Below.refl _ w).alloc (Nat.le_refl _) ob) z2
        by_cases h2 : (m : Int) ≤ 200
        · have HA := Lib.hid (show (l.take (k + 1)).all (fun p => decide (p.2.length ≤ 200)) = true by
            rw [htk, List.all_append, hR.out]
            simp [hm]
            omega)
          clear z2 z3 hm hp htk hkl
          go_wp2
          go_round
          case rel => exact ⟨k + 1, by omega, by go_num, HA⟩
          case measure => simp [intOf]; omega
        · have HA := Lib.hid (show fw l = false by
            have hf : l.all (fun p => decide (p.2.length ≤ 200)) = false := by
              rw [Bool.eq_false_iff]
              intro h
              rw [List.all_eq_true] at h
              have := h (a, bs) (List.mem_of_getElem? hp)
              simp [hm] at this
              omega
            unfold fw
            rw [hf, Bool.and_false])
          have h2' : (200 : Int) < m := by omega
          clear z2 z3 hm hp htk hkl h2
          go_wp2
          go_ret
          exact ⟨S02.ret_bool HA.out.symm, (Below.refl _ w).alloc (Nat.le_refl _) _⟩
      · have hlt' : decide (k < n) = false := by simpa using hlt
        have HA := Lib.hid (show fw l = true by
          unfold fw
          have := hR.out
          rw [show l.take k = l by rw [List.take_of_length_le]; rw [HN.out]; omega] at this
          rw [this, HN.out, Bool.and_true]
          simp
          omega)
        clear hlt
        go_wp2
        go_ret
        exact ⟨S02.ret_bool HA.out.symm, (Below.refl _ w).alloc (Nat.le_refl _) _⟩
  · have HA := Lib.hid (show fw l = false by
      unfold fw
      rw [HN.out, show decide (n ≤ 20) = false by simp; omega, Bool.false_and])
    have h2' : (20 : Int) < n := by omega
    clear h20
    go_enter Tryz.func13, Tryz.ntmps13
    go_wp2
    go_ret
    exact ⟨S02.ret_bool HA.out.symm, (Below.refl _ w).alloc (Nat.le_refl _) _⟩
end Go.Proofs.YtcnmnkgnaknpdaaGreatDoor
/-! LsF -/
namespace Go.Proofs.YtcnmnkgnaknpdaaGreatDoor
open Go.RowKit Go.Maps S01 S02 S06 S07
theorem fw_open {l : List (Nat × List UInt8)} (h : fw l = true) : l.length ≤ 20 ∧ ∀ p ∈ l, p.2.length ≤ 200 := by
  unfold fw at h
  rw [Bool.and_eq_true, List.all_eq_true] at h
  exact ⟨by simpa using h.1, fun p hp => by simpa using h.2 p hp⟩
theorem Tw.wake {w w' : World} (h : Tw w) (hb : Below w.heap.size w w') : Calls Tryz.prog 8 #[] w' fun e w'' => e = .returned (.bool true) ∧ Below w'.heap.size w' w'' := awake_any w' (h.on hb).1 (h.on hb).five
theorem sv_form {w : World} {sv : Value} {l : List (Nat × List UInt8)} (hs : SgR w sv l) : ∃ a c, sv = .slice a l.length c := by
  rcases hs with ⟨rfl, a, c, rfl⟩ | ⟨_, g, o, c, rfl, _⟩
  · exact ⟨a, c, rfl⟩
  · exact ⟨_, c, rfl⟩
set_option maxHeartbeats 4000000 in
theorem listing_walk {w : World} {st : Nat} {sv : Value} {l : List (Nat × List UInt8)} (hs : SgR w sv l) (ha : ∀ p ∈ l, p.1 < 4294967296) (ht : Tw w) :
    Calls Tryz.prog 4 #[.agg #[.int .u32 st, sv]] w fun e w' => e = .returned (.bool true) ∧ Below w.heap.size w w' := by
  have H13 := Lib.hid (fun (W : World) (hb : Below w.heap.size w W) => few_any (st := st) (hs.below hb))
  have HAW := Lib.hid (fun (W : World) (hb : Below w.heap.size w W) => ht.wake hb)
  obtain ⟨sa, sc, rfl⟩ := sv_form hs
  obtain ⟨n, hn⟩ : ∃ n, l.length = n := ⟨_, rfl⟩
  rw [hn] at H13 hs ⊢
  obtain ⟨W0, hW0⟩ : ∃ W0, w.alloc (.cells #[.int .u32 st, .slice sa n sc] 26) = W0 := ⟨_, rfl⟩
  have HB0 := Lib.hid (show Below w.heap.size w W0 from hW0 ▸ (Below.refl _ w).alloc (Nat.le_refl _) _)
  have HI0 := Lib.hid (show W0.heap[w.heap.size]? = some (.cells #[.int .u32 st, .slice sa n sc] 26 (0, 0)) from hW0 ▸ heap_alloc_new w _)
  cases hf : fw l
  · rw [hf] at H13
    clear hs ha ht hf hn
    go_enter Tryz.func4, Tryz.ntmps4
    go_upto_region 1 with fail
    have c0 := cell_of (o := 0) HI0.out rfl
    have c1 := cell_of (o := 1) HI0.out rfl
    clear hW0
    go_wp2_with (first
      | (go_at_call 13; refine (H13.out _ HB0.out).mono ?_; rintro e w1 ⟨rfl, hb1⟩; have HB1 := Lib.hid (HB0.out.trans (hb1.mono HB0.out.size)); clear hb1)
      | (go_at_call 8; refine (HAW.out _ HB1.out).mono ?_; rintro e w2 ⟨rfl, hb2⟩; have HB2 := Lib.hid (HB1.out.trans (hb2.mono HB1.out.size)); clear hb2))
    go_ret
    exact ⟨rfl, HB2.out⟩
  · obtain ⟨f1, f2⟩ := fw_open hf
    have HL := Lib.hid (fun (W : World) (hb : Below w.heap.size w W) => listing_any (st := st) (hs.below hb) f1 f2 ha (ht.on hb))
    have HR := Lib.hid (fun (W : World) (hb : Below w.heap.size w W) => rlisting_any (st := st) (hs.below hb) f1 f2 ha (ht.on hb))
    have HLN := Lib.hid (lst_len f2 f1)
    rw [hf] at H13
    clear hs ha ht hf hn f1 f2
    generalize lst l = L at *
    go_enter Tryz.func4, Tryz.ntmps4
    go_upto_region 1 with fail
    have c0 := cell_of (o := 0) HI0.out rfl
    have c1 := cell_of (o := 1) HI0.out rfl
    clear hW0
    go_upto_region 3 with (go_at_call 13; refine (H13.out _ HB0.out).mono ?_; rintro e w1 ⟨rfl, hb1⟩; have HB1 := Lib.hid (HB0.out.trans (hb1.mono HB0.out.size)); have HI1 := Lib.hid ((hb1.block _ (lt_of_heap HI0.out)).trans HI0.out); clear hb1)
    have d0 := cell_of (o := 0) HI1.out rfl
    have d1 := cell_of (o := 1) HI1.out rfl
    clear c0 c1
    have HBd := Lib.hid HB1.out.drew
    go_region_with (first
      | (go_at_call 15; refine (HL.out _ HBd.out).mono ?_; rintro e w2 ⟨v1, rfl, hr1⟩; have R1 := Lib.hid hr1; have HB2 := Lib.hid (HBd.out.trans (hr1.2.mono HBd.out.size)); have HI2 := Lib.hid ((hr1.2.block _ (lt_of_heap HI1.out)).trans HI1.out); have e0 := cell_of (o := 0) HI2.out rfl; have e1 := cell_of (o := 1) HI2.out rfl; clear hr1)
      | (go_at_call 16; refine (HR.out _ HB2.out).mono ?_; rintro e w3 ⟨v2, rfl, hr2⟩; have R2 := Lib.hid hr2; have HB3 := Lib.hid (HB2.out.trans (hr2.2.mono HB2.out.size)); have O1 := Lib.hid (S02.own_below R1.out.1 hr2.2); clear hr2)
      | (go_at_call 14; refine (texts_own _ _ _ _ L _ (by have := HLN.out; omega) O1.out R2.out.1).mono ?_; rintro e w4 ⟨rfl, hd4⟩; have HB4 := Lib.hid (HB3.out.trans (hd4.below.mono HB3.out.size)); clear hd4)
      | (go_at_call 8; refine (HAW.out _ HB4.out).mono ?_; rintro e w5 ⟨rfl, hb5⟩; have HB5 := Lib.hid (HB4.out.trans (hb5.mono HB4.out.size)); clear hb5))
    all_goals
      go_wp2
      go_ret
      exact ⟨rfl, HB5.out⟩
theorem listing_law (st : Nat) (sv : Value) (l : List (Nat × List UInt8)) (w : World) (_h : st < 4294967296) (hs : SgR w sv l) (ha : ∀ p ∈ l, p.1 < 4294967296) (ht : Tw w) : Calls Tryz.prog 4 #[.agg #[.int .u32 st, sv]] w fun e w' => e = .returned (.bool true) ∧ Below w.heap.size w w' := listing_walk hs ha ht
end Go.Proofs.YtcnmnkgnaknpdaaGreatDoor
