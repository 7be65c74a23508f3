/-
  What the law Bytes does, its parts: how a program of addresses and bytes is written; images in memory over a store.
  The law Bytes returns true at every image and leaves all that was in memory as it was, where the tables are as their texts lay them.
-/
import Derived.Test.YtcnmnkgnaknpdaaGreatDoorGw
import Derived.Test.YtcnmnkgnaknpdaaGreatDoorGp

/-! BsA -/
namespace Go.Proofs.YtcnmnkgnaknpdaaGreatDoor
open Go.RowKit Go.Maps S01 S02 S06 S07
namespace AS
/-- Where the last segment ends. -/
def lastE : Nat → List (Nat × List UInt8) → Nat
  | n, [] => n
  | _, p :: r => lastE (p.1 + p.2.length) r
theorem lastE_snoc : ∀ (l : List (Nat × List UInt8)) (n : Nat) (p : Nat × List UInt8), lastE n (l ++ [p]) = p.1 + p.2.length
  | [], _, _ => rfl
  | _q :: r, _, p => lastE_snoc r _ p
theorem Ap.snoc : ∀ {l : List (Nat × List UInt8)} {f : Bool} {n : Nat} {p : Nat × List UInt8}, Ap f n l → p.2 ≠ [] → ((f = false ∨ l ≠ []) → lastE n l < p.1) → p.1 + p.2.length ≤ 16384 → Ap f n (l ++ [p])
  | [], f, n, p, _, h1, h2, h3 => ⟨h1, fun hf => h2 (.inl hf), h3, trivial⟩
  | q :: r, f, n, p, h, h1, h2, h3 => by
    obtain ⟨a1, a2, a3, a4⟩ := h
    exact ⟨a1, a2, a3, a4.snoc h1 (fun _ => h2 (.inr (by simp))) h3⟩
theorem Ap_ne : ∀ {f : Bool} {n : Nat} {l : List (Nat × List UInt8)}, Ap f n l → ∀ p ∈ l, p.2 ≠ []
  | _, _, [], _, p, hp => by cases hp
  | _, _, q :: r, h, p, hp => by
    rcases List.mem_cons.1 hp with rfl | hp
    · exact h.1
    · exact Ap_ne h.2.2.2 p hp
theorem lnB_take (p : Nat × List UInt8) : lnB p = dByte ++ gaps [32] ((p.2.take p.2.length).map hxw) := by rw [List.take_length]; rfl
theorem gaps_snoc (g x : List UInt8) : ∀ r : List (List UInt8), gaps g (r ++ [x]) = gaps g r ++ (g ++ x)
  | [] => by simp [gaps]
  | y :: r => by rw [List.cons_append, gaps, gaps, gaps_snoc g x r]; simp
end AS
/-- An image's own block, while a text is written. -/
structure BZ (w wr : World) (st : Nat) (v : Value) : Prop where
  old : Below w.heap.size w wr
  im : wr.heap[w.heap.size]? = some (.cells #[.int .u32 st, v] 26 (0, 0))
theorem BZ.below {w wr w2 : World} {st : Nat} {v : Value} (h : BZ w wr st v) (hb : Below wr.heap.size wr w2) : BZ w w2 st v := ⟨h.old.trans (hb.mono h.old.size), (hb.block _ (lt_of_heap h.im)).trans h.im⟩
theorem ByR.set {w : World} {v : Value} {bs : List UInt8} {b o : Nat} {u : Value} (h : ByR w v bs) (hb : ∀ g o' c, v = .slice (some ⟨g, o', none⟩) bs.length c → bs ≠ [] → g ≠ b) : ByR (w.setCell ⟨b, o, none⟩ u) v bs := by
  rcases h with h | ⟨h0, g, o', c, hv, h1, h2, h3⟩
  · exact .inl h
  · have hg := hb g o' c hv h0
    exact .inr ⟨h0, g, o', c, hv, h1, h2, fun j hj => (World.cell?_of_block (w := w) (a := ⟨g, o' + j, none⟩) (heap_other hg)).trans (h3 j hj)⟩
/-- An image in memory over a store into another image's own block. -/
theorem SgR.box {W : World} {b st o n sc : Nat} {sa : Option Addr} {x u : Value} {l : List (Nat × List UInt8)} (hb : W.heap[b]? = some (.cells #[.int .u32 st, .slice sa n sc] 26 (0, 0))) (h : SgR W x l) (hne : ∀ p ∈ l, p.2 ≠ []) (h' : SgR W (.slice sa n sc) l) : SgR (W.setCell ⟨b, o, none⟩ u) x l := by
  have nob : ∀ o, W.cell? ⟨b, o, none⟩ = some (.int .u32 st) ∨ W.cell? ⟨b, o, none⟩ = some (.slice sa n sc) ∨ W.cell? ⟨b, o, none⟩ = none := fun o => by
    match o with
    | 0 => exact .inl (cell_of hb rfl)
    | 1 => exact .inr (.inl (cell_of hb rfl))
    | o + 2 => refine .inr (.inr ?_); simp [World.cell?, hb]
  have noby : ∀ o (z : Nat), ¬ W.cell? ⟨b, o, none⟩ = some (.int .u8 z) := fun o z e => by
    rcases nob o with h | h | h <;> rw [h] at e
    · injection e with e; injection e with e _; cases e
    · injection e with e; cases e
    · cases e
  rcases h with h | ⟨h0, g, o', c, hv, h3⟩
  · exact .inl h
  · have hgb : g ≠ b := by
      rintro rfl
      obtain ⟨p, hp⟩ : ∃ p, l[0]? = some p := by
        cases l with
        | nil => exact absurd rfl h0
        | cons p r => exact ⟨p, rfl⟩
      obtain ⟨q1, d, q2, q3⟩ := h3 0 p hp
      have hpn := hne p (List.mem_of_getElem? hp)
      -- the data's slice stands in the block: it is the other image's row of segments
      rcases q3 with ⟨h, _⟩ | ⟨_, g2, o2, c2, rfl, k1, k2, k3⟩
      · exact absurd h hpn
      · have hl2 : 0 < p.2.length := List.length_pos_iff.2 hpn
        have k4 := k3 0 hl2
        rcases nob (o' + 0 * 2 + 1) with e | e | e
        · rw [e] at q2; injection q2 with q2; cases q2
        · rw [e] at q2
          injection q2 with q2
          injection q2 with e1 e2 e3
          rcases h' with ⟨h, _⟩ | ⟨_, g4, o4, c4, e4, h4⟩
          · exact h0 h
          · injection e4 with e4 _ _
            rw [e1] at e4
            injection e4 with e4
            injection e4 with e5 e6 _
            obtain ⟨r1, _⟩ := h4 0 p hp
            rw [← e5, ← e6] at r1
            rw [Nat.zero_mul] at r1
            rw [k4] at r1
            injection r1 with r1
            injection r1 with r1 _
            cases r1
        · rw [e] at q2; cases q2
    refine .inr ⟨h0, g, o', c, hv, fun j p hj => ?_⟩
    obtain ⟨q1, d, q2, q3⟩ := h3 j p hj
    refine ⟨(World.cell?_of_block (w := W) (a := ⟨g, o' + j * 2, none⟩) (heap_other hgb)).trans q1, d, (World.cell?_of_block (w := W) (a := ⟨g, o' + j * 2 + 1, none⟩) (heap_other hgb)).trans q2, q3.set fun g2 o2 c2 e hn => ?_⟩
    rintro rfl
    rcases q3 with ⟨h, _⟩ | ⟨_, g3, o3, c3, e3, k1, k2, k3⟩
    · exact hn h
    · rw [e] at e3
      injection e3 with e3 _ _
      injection e3 with e3
      injection e3 with e4 e5 _
      subst e4
      exact noby _ _ (k3 0 (List.length_pos_iff.2 hn))
end Go.Proofs.YtcnmnkgnaknpdaaGreatDoor
/-! BsB -/
namespace Go.Proofs.YtcnmnkgnaknpdaaGreatDoor
open Go.RowKit Go.Maps S01 S02 S06 S07
theorem app_eq {A B : ByteArray} {x y : List UInt8} (h1 : A.data.toList = x) (h2 : B.data.toList = y) : (A ++ B).data.toList = x ++ y := by rw [NM.data_app, h1, h2]
set_option maxRecDepth 20000 in
set_option maxHeartbeats 8000000 in
theorem bytes_walk {w : World} {st : Nat} {sv : Value} {l : List (Nat × List UInt8)} (hs : SgR w sv l) (ha : ∀ p ∈ l, p.1 < 4294967296) (ht : Tw w) :
    Calls Tryz.prog 6 #[.agg #[.int .u32 st, sv]] w fun e w' => e = .returned (.bool true) ∧ Below w.heap.size w w' := by
  have H13 := Lib.hid (fun (W : World) (hb : Below w.heap.size w W) => few_any (st := st) (hs.below hb))
  have HAW := Lib.hid (fun (W : World) (hb : Below w.heap.size w W) => ht.wake hb)
  obtain ⟨sa, sc, rfl⟩ := sv_form hs
  obtain ⟨n, hn⟩ : ∃ n, l.length = n := ⟨_, rfl⟩
  rw [hn] at H13 hs ⊢
  obtain ⟨W0, hW0⟩ : ∃ W0, w.alloc (.cells #[.int .u32 st, .slice sa n sc] 26) = W0 := ⟨_, rfl⟩
  have HZ0 := Lib.hid (show BZ w W0 st (.slice sa n sc) from ⟨hW0 ▸ (Below.refl _ w).alloc (Nat.le_refl _) _, hW0 ▸ heap_alloc_new w _⟩)
  cases hf : fw l
  · rw [hf] at H13
    clear hs ha ht hf hn
    go_enter Tryz.func6, Tryz.ntmps6
    go_upto_region 1 with fail
    have c0 := cell_of (o := 0) HZ0.out.im rfl
    have c1 := cell_of (o := 1) HZ0.out.im rfl
    clear hW0
    go_wp2_with (first
      | (go_at_call 13; refine (H13.out _ HZ0.out.old).mono ?_; rintro e w1 ⟨rfl, hb1⟩; have HB1 := Lib.hid (HZ0.out.old.trans (hb1.mono HZ0.out.old.size)); clear hb1)
      | (go_at_call 8; refine (HAW.out _ HB1.out).mono ?_; rintro e w2 ⟨rfl, hb2⟩; have HB2 := Lib.hid (HB1.out.trans (hb2.mono HB1.out.size)); clear hb2))
    go_ret
    exact ⟨rfl, HB2.out⟩
  · obtain ⟨f1, f2⟩ := fw_open hf
    rw [hf] at H13
    have HDec := Lib.hid (fun (a : Nat) (W : World) (hb : Below w.heap.size w W) (h : a < 4294967296) => S07.dec_any (a : Int) W (by omega) (by omega) (ht.on hb).1)
    have HHex := Lib.hid (fun (u : Nat) (W : World) (hb : Below w.heap.size w W) (h : u < 256) => hex_any u W (by omega) (ht.on hb).2)
    have HAs := Lib.hid (fun (s : ByteArray) (W : World) (hb : Below w.heap.size w W) (h : s.size ≤ 9223372036854775807) => asmAll_any s W h (ht.on hb).1 (ht.on hb).five)
    have HG := Lib.hid hs
    have HAA := Lib.hid ha
    have HF1 := Lib.hid f1
    have HF2 := Lib.hid f2
    have HN := Lib.hid hn
    have hn20 : (n : Int) ≤ 20 := by omega
    clear hs ha ht hf hn f1 f2
    go_enter Tryz.func6, Tryz.ntmps6
    go_upto_region 1 with fail
    have c0 := cell_of (o := 0) HZ0.out.im rfl
    have c1 := cell_of (o := 1) HZ0.out.im rfl
    clear hW0
    go_upto_region 3 with (go_at_call 13; refine (H13.out _ HZ0.out.old).mono ?_; rintro e w1 ⟨rfl, hb1⟩; have HZ1 := Lib.hid (HZ0.out.below hb1); clear hb1)
    clear c0 c1 HZ0 H13
    go_wp2
    go_loopw [3, 4, 5] (fun v u i wr => ∃ (k nx : Nat) (X : ByteArray), k ≤ n ∧ i = .int .i64 k ∧ u = .int .u32 nx ∧ v = .string X ∧ (nx : Int) ≤ 16384 ∧ Hid (X.data.toList = AS.srcB (l.take k)) ∧ Hid (AS.Ap true 0 (l.take k) ∧ nx = AS.lastE 0 (l.take k)) ∧ Hid (BZ w wr st (.slice sa n sc))) (fun _ _ i _ => n - (intOf i).toNat)
    case atStart => exact ⟨0, 0, ⟨#[]⟩, by omega, rfl, rfl, rfl, by omega, Lib.hid rfl, Lib.hid ⟨trivial, rfl⟩, HZ1⟩
    case round =>
      obtain ⟨k, nx, X, hk, rfl, rfl, rfl, hnx, hX, hAp, hZ⟩ := hrel
      clear HZ1
      have c0 := cell_of (o := 0) hZ.out.im rfl
      have c1 := cell_of (o := 1) hZ.out.im rfl
      have HXS := Lib.hid (show (X.size : Int) ≤ 46000 by
        have h1 := NM.len_eq X
        rw [hX.out] at h1
        have h2 := (AS.srcB_len (l.take k) fun p hp => ⟨HF2.out p (List.mem_of_mem_take hp), by have := hAp.out.1.above.2 p hp; omega⟩).1
        have h3 : (l.take k).length ≤ 20 := by rw [List.length_take]; have := HF1.out; omega
        omega)
      have hXS := HXS.out
      by_cases hlt : (k : Int) < n
      · have hkl : k < l.length := by rw [HN.out]; omega
        obtain ⟨⟨a, bs⟩, hp⟩ : ∃ p, l[k]? = some p := ⟨_, List.getElem?_eq_getElem hkl⟩
        have hmem : (a, bs) ∈ l := List.mem_of_getElem? hp
        have hbl := HF2.out (a, bs) hmem
        have hal := HAA.out (a, bs) hmem
        simp only [] at hbl hal
        have HTK := Lib.hid (show l.take (k + 1) = l.take k ++ [(a, bs)] by rw [List.take_succ_eq_append_getElem hkl, List.getElem_eq_iff hkl |>.2 hp])
        have HT1 := Lib.hid (show l.take k ≠ [] → 0 < k from fun h => by rcases Nat.eq_zero_or_pos k with e | e; (subst e; exact absurd rfl h); exact e)
        obtain ⟨g, o, rfl, z1, d, z2, z3⟩ : ∃ g o, sa = some ⟨g, o, none⟩ ∧ w.cell? ⟨g, o + k * 2, none⟩ = some (.int .u32 a) ∧ ∃ d, w.cell? ⟨g, o + k * 2 + 1, none⟩ = some d ∧ ByR w d bs := by
          rcases HG.out with ⟨h, -⟩ | ⟨-, g, o, c, h, h3⟩
          · rw [h] at hkl; simp at hkl
          · injection h with h1 h2 h4
            obtain ⟨q1, d, q2, q3⟩ := h3 k _ hp
            exact ⟨g, o, h1, q1, d, q2, q3⟩
        obtain ⟨m, hm⟩ : ∃ m, bs.length = m := ⟨_, rfl⟩
        have HM := Lib.hid hm
        have hm2 : (m : Int) ≤ 200 := by omega
        have ha2 : (a : Int) < 4294967296 := by omega
        obtain ⟨da, dc, rfl⟩ : ∃ a c, d = .slice a m c := by
          rcases z3 with ⟨h, a, c, rfl⟩ | ⟨_, g, o, c, rfl, _⟩
          · exact ⟨a, c, by rw [← hm, h]; rfl⟩
          · exact ⟨_, c, by rw [hm]⟩
        have HZ3 := Lib.hid z3
        have y1 := cell_below hZ.out.old z1
        have y2 := cell_below hZ.out.old z2
        clear z1 z2 z3 hm hbl hal hp hmem hkl
        go_upto_region 9 with fail
        obtain ⟨S, hS⟩ : ∃ S, wr.heap.size = S := ⟨_, rfl⟩
        obtain ⟨W1, hW1⟩ : ∃ W1, wr.alloc (.cells #[.int .u32 a, .slice da m dc] 49) = W1 := ⟨_, rfl⟩
        have HZ2 := Lib.hid (show BZ w W1 st (.slice (some ⟨g, o, none⟩) n sc) from hW1 ▸ hZ.out.below ((Below.refl _ wr).alloc (Nat.le_refl _) _))
        have HS2 := Lib.hid (show W1.heap[S]? = some (.cells #[.int .u32 a, .slice da m dc] 49 (0, 0)) from hS ▸ hW1 ▸ heap_alloc_new wr _)
        rw [hW1, hS]
        clear hW1 hS y1 y2 c0 c1 hZ
        have s0 := cell_of (o := 0) HS2.out rfl
        have s1 := cell_of (o := 1) HS2.out rfl
        by_cases hgood : ¬ (m : Int) = 0 ∧ (¬ (0 : Int) < k ∨ (nx : Int) < a) ∧ (a : Int) ≤ 16384 ∧ (a : Int) + m ≤ 16384
        · obtain ⟨q1, q2, q3, q4⟩ := hgood
          have q1' : ((m : Int) == 0) = false := by simp; omega
          have q3' : decide ((16384 : Int) < a) = false := by simp; omega
          have q4' : decide ((16384 : Int) < (a : Int) + m) = false := by simp; omega
          have HAp2 := Lib.hid (show AS.Ap true 0 (l.take (k + 1)) ∧ a + m = AS.lastE 0 (l.take (k + 1)) by
            rw [HTK.out]
            refine ⟨hAp.out.1.snoc (fun e => q1 (by have := HM.out; rw [show bs = [] from e] at this; simp at this; omega)) (fun h => ?_) (by show a + bs.length ≤ 16384; have := HM.out; omega), by rw [AS.lastE_snoc]; show a + m = a + bs.length; rw [HM.out]⟩
            have h0 := HT1.out (h.resolve_left (by simp))
            have := hAp.out.2
            show AS.lastE 0 (l.take k) < a
            omega)
          have HDc := Lib.hid (fun (W : World) (hb : Below w.heap.size w W) => HDec.out a W hb (by omega))
          obtain ⟨T, hT, hT1, hT2⟩ := bt_of (Lib.itoa (a : Int))
          rw [hT] at HDc
          have hTs : (T.size : Int) ≤ 21 := by have := AS.ito (a : Int) (by omega); omega
          have HY0 := Lib.hid (show (X ++ ⟨#[46, 111, 114, 103, 32]⟩ ++ T ++ ⟨#[10, 46, 98, 121, 116, 101]⟩).data.toList = AS.srcB (l.take k) ++ AS.lnA (a, bs) ++ [10] ++ AS.dByte by
            have h := app_eq (app_eq (app_eq hX.out (rfl : (⟨#[46, 111, 114, 103, 32]⟩ : ByteArray).data.toList = [46, 111, 114, 103, 32])) hT1) (rfl : (⟨#[10, 46, 98, 121, 116, 101]⟩ : ByteArray).data.toList = [10, 46, 98, 121, 116, 101])
            rw [h]
            simp [AS.lnA, AS.gaps, AS.dOrg, AS.dByte])
          have HYS0 := Lib.hid (show ((X ++ ⟨#[46, 111, 114, 103, 32]⟩ ++ T ++ ⟨#[10, 46, 98, 121, 116, 101]⟩).size : Int) ≤ 46100 by
            rw [ByteArray.size_append, ByteArray.size_append, ByteArray.size_append, show (⟨#[46, 111, 114, 103, 32]⟩ : ByteArray).size = 5 from rfl, show (⟨#[10, 46, 98, 121, 116, 101]⟩ : ByteArray).size = 6 from rfl]
            omega)
          have hsz : (X.size : Int) + 5 ≤ 46005 := by omega
          clear hT hT1 hT2 hX
          have hgd : (decide (0 < k) = true ∧ (0 : Int) < k ∧ decide (a ≤ nx) = false ∧ (nx : Int) < a) ∨ decide (0 < k) = false := by
            simp only [decide_eq_true_eq, decide_eq_false_iff_not]
            omega
          clear q2 q1
          rcases hgd with ⟨r1, r2, r3, r4⟩ | r1
          all_goals
            go_upto_region 13 with (go_at_call 19; refine (HDc.out _ HZ2.out.old).mono ?_; rintro e w3 ⟨rfl, hb3⟩; have HZ4 := Lib.hid (HZ2.out.below hb3); have HS4 := Lib.hid ((hb3.block _ (lt_of_heap HS2.out)).trans HS2.out); clear hb3)
            clear s0 s1
            go_wp2
            go_loopw [3, 7] (fun v i wx => ∃ (j : Nat) (Y : ByteArray), j ≤ m ∧ i = .int .i64 j ∧ v = .string Y ∧ (Y.size : Int) ≤ 46100 + 13 * j ∧ Hid (Y.data.toList = AS.srcB (l.take k) ++ AS.lnA (a, bs) ++ [10] ++ AS.dByte ++ AS.gaps [32] ((bs.take j).map AS.hxw)) ∧ Hid (BZ w wx st (.slice (some ⟨g, o, none⟩) n sc)) ∧ Hid (wx.heap[S]? = some (.cells #[.int .u32 a, .slice da m dc] 49 (0, 0)))) (fun _ i _ => m - (intOf i).toNat)
            case atStart => exact ⟨0, _, by omega, rfl, rfl, by have := HYS0.out; omega, Lib.hid (by rw [HY0.out]; simp [AS.gaps]), HZ4, HS4⟩
            case round =>
              obtain ⟨j, Y, hj, rfl, rfl, hYs, hY, hZ5, hS5⟩ := hrel
              clear HZ4 HS4
              have s0 := cell_of (o := 0) hS5.out rfl
              have s1 := cell_of (o := 1) hS5.out rfl
              by_cases hlj : (j : Int) < m
              · have hjb : j < bs.length := by rw [HM.out]; omega
                obtain ⟨g2, o2, rfl, hcell⟩ : ∃ g o, da = some ⟨g, o, none⟩ ∧ ∀ j, j < bs.length → w.cell? ⟨g, o + j, none⟩ = some (.int .u8 (bs.getD j 0).toNat) := by
                  rcases HZ3.out with ⟨h, -⟩ | ⟨-, g, o, c, h, h1, h2, h3⟩
                  · rw [h] at hjb; simp at hjb
                  · injection h with e1 e2 e3
                    exact ⟨g, o, e1, h3⟩
                have b0 := cell_below hZ5.out.old (hcell j hjb)
                obtain ⟨b, hb⟩ : ∃ b, bs.getD j 0 = b := ⟨_, rfl⟩
                rw [hb] at b0
                have HBT := Lib.hid (show bs.take (j + 1) = bs.take j ++ [b] by rw [List.take_succ_eq_append_getElem hjb, ← hb, List.getD_eq_getElem?_getD, List.getElem?_eq_getElem hjb]; rfl)
                obtain ⟨y, hy⟩ : ∃ y, b.toNat = y := ⟨_, rfl⟩
                have hy2 : (y : Int) < 256 := by have := b.toNat_lt; omega
                have HHx := Lib.hid (fun (W : World) (hb : Below w.heap.size w W) => HHex.out y W hb (by omega))
                obtain ⟨U, hU, hU1, hU2⟩ := bt_of (NM.hxs y 8)
                rw [hU] at HHx
                rw [NM.hxs_len] at hU2
                rw [hy] at b0
                have HYN := Lib.hid (show (Y ++ ⟨#[32, 48, 120]⟩ ++ U).data.toList = AS.srcB (l.take k) ++ AS.lnA (a, bs) ++ [10] ++ AS.dByte ++ AS.gaps [32] ((bs.take (j + 1)).map AS.hxw) by
                  have h := app_eq (app_eq hY.out (rfl : (⟨#[32, 48, 120]⟩ : ByteArray).data.toList = [32, 48, 120])) hU1
                  rw [h, HBT.out, List.map_append, List.map_cons, List.map_nil, AS.gaps_snoc]
                  simp [AS.hxw, hy])
                have hUs : (U.size : Int) = 8 := by omega
                have HYNS := Lib.hid (show ((Y ++ ⟨#[32, 48, 120]⟩ ++ U).size : Int) ≤ 46100 + 13 * ((j + 1 : Nat) : Int) by
                  rw [ByteArray.size_append, ByteArray.size_append, show (⟨#[32, 48, 120]⟩ : ByteArray).size = 3 from rfl]
                  omega)
                have hYs2 : (Y.size : Int) ≤ 50000 := by omega
                clear hcell hb hy hU hU1 hU2 hjb hYs
                go_wp2_with (go_at_call 20; refine (HHx.out _ hZ5.out.old).mono ?_; rintro e w4 ⟨rfl, hb4⟩; have HZ6 := Lib.hid (hZ5.out.below hb4); have HS6 := Lib.hid ((hb4.block _ (lt_of_heap hS5.out)).trans hS5.out); clear hb4)
                go_roundw
                case rel => exact ⟨j + 1, _, by omega, by go_num, rfl, HYNS.out, HYN, HZ6, HS6⟩
                case measure => simp [intOf]; omega
              · obtain rfl : j = m := by omega
                have HFin := Lib.hid (show (Y ++ ⟨#[10]⟩).data.toList = AS.srcB (l.take (k + 1)) by
                  have h := app_eq hY.out (rfl : (⟨#[10]⟩ : ByteArray).data.toList = [10])
                  rw [h, HTK.out, AS.srcB_snoc]
                  rw [show bs.take j = bs by rw [← HM.out, List.take_length]]
                  simp [AS.lnB])
                have hYs2 : (Y.size : Int) ≤ 50000 := by omega
                have hne : (a : Int) + j < 4294967296 := by omega
                clear hlj hYs
                go_wp2
                go_roundw
                case rel => exact ⟨k + 1, a + j, _, by omega, by go_num, by go_num, rfl, by omega, HFin, HAp2, hZ5⟩
                case measure => simp [intOf]; omega
        · have hbad : (((m : Int) == 0) = true) ∨ (((m : Int) == 0) = false ∧ decide (0 < k) = true ∧ (0 : Int) < k ∧ decide (a ≤ nx) = true ∧ (a : Int) ≤ nx) ∨ (((m : Int) == 0) = false ∧ decide (0 < k) = true ∧ (0 : Int) < k ∧ decide (a ≤ nx) = false ∧ (nx : Int) < a ∧ (16384 : Int) < a) ∨ (((m : Int) == 0) = false ∧ decide (0 < k) = false ∧ (16384 : Int) < a) ∨ (((m : Int) == 0) = false ∧ decide (0 < k) = true ∧ (0 : Int) < k ∧ decide (a ≤ nx) = false ∧ (nx : Int) < a ∧ decide ((16384 : Int) < a) = false ∧ (a : Int) ≤ 16384 ∧ (16384 : Int) < (a : Int) + m) ∨ (((m : Int) == 0) = false ∧ decide (0 < k) = false ∧ decide ((16384 : Int) < a) = false ∧ (a : Int) ≤ 16384 ∧ (16384 : Int) < (a : Int) + m) := by
            simp only [beq_iff_eq, beq_eq_false_iff_ne, ne_eq, decide_eq_true_eq, decide_eq_false_iff_not]
            omega
          clear hgood
          rcases hbad with q1 | ⟨q1, q2, q2', q3, q3'⟩ | ⟨q1, q2, q2', q3, q3', q4⟩ | ⟨q1, q2, q4⟩ | ⟨q1, q2, q2', q3, q3', q4, q4', q5⟩ | ⟨q1, q2, q4, q4', q5⟩
          all_goals
            go_wp2_with (go_at_call 8; refine (HAW.out _ HZ2.out.old).mono ?_; rintro e w2 ⟨rfl, hb2⟩; have HB9 := Lib.hid (HZ2.out.old.trans (hb2.mono HZ2.out.old.size)); clear hb2)
            go_ret
            exact ⟨rfl, HB9.out⟩
      · obtain rfl : k = n := by omega
        have HFull := Lib.hid (show l.take k = l by rw [← HN.out, List.take_length])
        rw [HFull.out] at hX hAp
        have HA := Lib.hid (HAs.out X wr hZ.out.old (by omega))
        rw [hX.out, AS.asm_seg hAp.out.1 HF1.out HF2.out] at HA
        have HNE := Lib.hid (show ∀ p ∈ l, p.2 ≠ [] from AS.Ap_ne hAp.out.1)
        clear hlt hX hAp HXS
        have HNE2 := Lib.hid (show (AS.at0 l : Int) < 4294967296 from by
          have h := HAA.out
          cases l with
          | nil => simp [AS.at0]
          | cons p r => have := h p (by simp); show (p.1 : Int) < _; omega)
        go_upto_region 19 with (go_at_call 9; refine HA.out.mono ?_; rintro e w5 ⟨sv5, nv5, rfl, hb5, hs5, hn5⟩; have HZ5 := Lib.hid (hZ.out.below hb5); have HS5 := Lib.hid hs5; obtain ⟨sa5, sc5, rfl⟩ := sv_form hs5; obtain ⟨na5, nc5, rfl⟩ := nv_form hn5; clear hb5 hs5 hn5)
        obtain ⟨W6, hW6⟩ : ∃ W6, w5.alloc (.cells #[.int .u32 (AS.at0 l), .slice sa5 l.length sc5] 26) = W6 := ⟨_, rfl⟩
        obtain ⟨B5, hB5⟩ : ∃ B5, w5.heap.size = B5 := ⟨_, rfl⟩
        have hal5 : Below w5.heap.size w5 W6 := hW6 ▸ (Below.refl _ w5).alloc (Nat.le_refl _) _
        have hO5 : W6.heap[B5]? = some (.cells #[.int .u32 (AS.at0 l), .slice sa5 l.length sc5] 26 (0, 0)) := hB5 ▸ hW6 ▸ heap_alloc_new w5 _
        have hZ6 := HZ5.out.below hal5
        have hne5 : w.heap.size ≠ B5 := by have := lt_of_heap HZ5.out.im; omega
        have hsv6 := HG.out.below hZ6.old
        have hx6 := HS5.out.below hal5
        have HB7 := Lib.hid (fun u => show Below w.heap.size w (W6.setCell ⟨w.heap.size, 0, none⟩ u) from hZ6.old.setCell (Nat.le_refl _) _)
        have HI := Lib.hid (fun u => image_same (st := (AS.at0 l : Int)) (hx6.box (o := 0) (u := u) hZ6.im HNE.out hsv6) (HG.out.below (HB7.out u)) (by have := HF1.out; omega) (fun p hp => by have := HF2.out p hp; omega))
        rw [hW6, hB5]
        have d0 := cell_of (o := 0) hO5 rfl
        have d1 := cell_of (o := 1) hO5 rfl
        have e0 := cell_of (o := 0) hZ6.im rfl
        have e1 := cell_of (o := 1) hZ6.im rfl
        have ef := fun o => unfrozen (o := o) hZ6.im
        have n1 : (w.heap.size == B5) = false := by simp [hne5]
        have n2 : (B5 == w.heap.size) = false := by simp; exact fun h => hne5 h.symm
        have n3 : ¬ B5 = w.heap.size := fun h => hne5 h.symm
        have HW6 := Lib.hid hZ6
        obtain ⟨A, hA⟩ : ∃ A : Int, (AS.at0 l : Int) = A := ⟨_, rfl⟩
        rw [hA] at d0 HI
        rw [HN.out] at d1 HI
        have HAA0 := Lib.hid hA
        clear hW6 hB5 hal5 hO5 hZ6 hsv6 hx6 c0 c1 hZ HZ5 HS5 hA HA HNE2
        by_cases hk0 : (k : Int) = 0
        · obtain rfl : A = 0 := by
            rw [← HAA0.out]
            have : l = [] := List.eq_nil_of_length_eq_zero (by rw [HN.out]; omega)
            rw [this]
            rfl
          have hk1 : decide ((0 : Int) < k) = false := by simp; omega
          have hk2 : decide (0 < k) = false := by simp; omega
          clear hk0
          go_wp2_with (first
            | (go_at_call 11; refine (HI.out _).mono ?_; rintro e w8 ⟨rfl, hb8⟩; have HB8 := Lib.hid ((HB7.out _).trans (hb8.mono (HB7.out _).size)); clear hb8)
            | (go_at_call 8; refine (HAW.out _ HB8.out).mono ?_; rintro e w9 ⟨rfl, hb9⟩; have HB9 := Lib.hid (HB8.out.trans (hb9.mono HB8.out.size)); clear hb9))
          go_ret
          exact ⟨rfl, HB9.out⟩
        · obtain ⟨g, o, rfl, y1⟩ : ∃ g o, sa = some ⟨g, o, none⟩ ∧ W6.cell? ⟨g, o, none⟩ = some (.int .u32 A) := by
            rcases HG.out with ⟨h, -⟩ | ⟨-, g, o, c, h, h3⟩
            · have := HN.out; rw [h] at this; simp at this; omega
            · injection h with h1 h2 h4
              obtain ⟨p, hp⟩ : ∃ p, l[0]? = some p := ⟨_, List.getElem?_eq_getElem (by rw [HN.out]; omega)⟩
              have q1 := cell_below HW6.out.old (h3 0 p hp).1
              rw [Nat.zero_mul, Nat.add_zero] at q1
              refine ⟨g, o, h1, ?_⟩
              rw [q1, ← HAA0.out]
              cases l with
              | nil => simp at hp
              | cons x r => simp at hp; subst hp; rfl
          have hk1 : (0 : Int) < k := by omega
          have hk2 : decide (0 < k) = true := by simp; omega
          clear hk0
          go_wp2_with (first
            | (go_at_call 11; refine (HI.out _).mono ?_; rintro e w8 ⟨rfl, hb8⟩; have HB8 := Lib.hid ((HB7.out _).trans (hb8.mono (HB7.out _).size)); clear hb8)
            | (go_at_call 8; refine (HAW.out _ HB8.out).mono ?_; rintro e w9 ⟨rfl, hb9⟩; have HB9 := Lib.hid (HB8.out.trans (hb9.mono HB8.out.size)); clear hb9))
          go_ret
          exact ⟨rfl, HB9.out⟩
theorem bytes_law (st : Nat) (sv : Value) (l : List (Nat × List UInt8)) (w : World) (_h : st < 4294967296) (hs : SgR w sv l) (ha : ∀ p ∈ l, p.1 < 4294967296) (ht : Tw w) : Calls Tryz.prog 6 #[.agg #[.int .u32 st, sv]] w fun e w' => e = .returned (.bool true) ∧ Below w.heap.size w w' := bytes_walk hs ha ht
end Go.Proofs.YtcnmnkgnaknpdaaGreatDoor
