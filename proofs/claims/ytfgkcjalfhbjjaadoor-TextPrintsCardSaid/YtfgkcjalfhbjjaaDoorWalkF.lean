/-
  What the package's Parse answers at every text of at most 200 bytes; it changes no memory that was there.
-/
import Derived.Test.YtfgkcjalfhbjjaaDoorWalkD
namespace Go.Proofs.YtfgkcjalfhbjjaaDoor
open Go.RowKit S02 S06
theorem cut_len (x p : List UInt8) : (Lib.cut x p).1.length ≤ x.length ∧ (Lib.cut x p).2.1.length ≤ x.length := by
  unfold Lib.cut
  split
  · exact ⟨by rw [List.length_take]; omega, by rw [List.length_drop]; omega⟩
  · simp
theorem cut_any (s p : ByteArray) (w : World) (hs : s.size ≤ 200) (ht : Tb w) : Calls Tryd.prog 31 #[.string s, .string p] w fun e w' =>
    e = .returned (.tuple #[.string ⟨(Lib.cut s.data.toList p.data.toList).1.toArray⟩, .string ⟨(Lib.cut s.data.toList p.data.toList).2.1.toArray⟩, .bool (Lib.cut s.data.toList p.data.toList).2.2]) ∧ Below w.heap.size w w' ∧ w'.heap.size = w.heap.size := by
  obtain ⟨_, _, m, hm⟩ := ht
  refine (Tryd.strings_Cut s p m w (by omega) hm).mono ?_
  rintro e w' ⟨rfl, n, rfl⟩
  exact ⟨rfl, below_drewN (Below.refl _ _) n, by simp⟩
theorem cut_bl (s : ByteArray) (w : World) (hs : s.size ≤ 200) (ht : Tb w) : Calls Tryd.prog 31 #[.string s, .string ⟨#[32]⟩] w fun e w' =>
    e = .returned (.tuple #[.string ⟨(TX.hd s.data.toList).toArray⟩, .string ⟨(TX.rest s.data.toList).toArray⟩, .bool (Lib.cut s.data.toList [32]).2.2]) ∧ Below w.heap.size w w' ∧ w'.heap.size = w.heap.size := cut_any s ⟨#[32]⟩ w hs ht
theorem cut_cm (s : ByteArray) (w : World) (hs : s.size ≤ 200) (ht : Tb w) : Calls Tryd.prog 31 #[.string s, .string ⟨#[44, 32]⟩] w fun e w' =>
    e = .returned (.tuple #[.string ⟨(Lib.cut s.data.toList [44, 32]).1.toArray⟩, .string ⟨(Lib.cut s.data.toList [44, 32]).2.1.toArray⟩, .bool (Lib.cut s.data.toList [44, 32]).2.2]) ∧ Below w.heap.size w w' ∧ w'.heap.size = w.heap.size := cut_any s ⟨#[44, 32]⟩ w hs ht
/-- What a round of Parse keeps: the zero result, the instruction so far, the operands' row. -/
def ZW (w wr : World) (r g h : Nat) (op : Int) (q : Int × Int × Int × Int) (l : List Nat) : Prop :=
  At wr r 0 0 0 0 0 ∧ At wr g op q.1 q.2.1 q.2.2.1 q.2.2.2 ∧ (¬ r = g ∧ ¬ h = g) ∧ (r < wr.heap.size ∧ g < wr.heap.size ∧ h < wr.heap.size) ∧ (w.heap.size ≤ r ∧ w.heap.size ≤ g) ∧ (∀ j, j < l.length → wr.cell? ⟨h, j, none⟩ = some (.int .i64 (l.getD j 4 : Nat))) ∧ Below w.heap.size w wr
theorem ZW.on {w wr w1 : World} {r g h : Nat} {op : Int} {q : Int × Int × Int × Int} {l : List Nat} (hz : ZW w wr r g h op q l) (hb : Below wr.heap.size wr w1) : ZW w w1 r g h op q l := by
  obtain ⟨hR, hG, hne, ⟨r1, g1, h1⟩, hge, hc, hB⟩ := hz
  exact ⟨hR.below r1 hb, hG.below g1 hb, hne, ⟨Nat.lt_of_lt_of_le r1 hb.size, Nat.lt_of_lt_of_le g1 hb.size, Nat.lt_of_lt_of_le h1 hb.size⟩, hge, fun j hj => (hb.cell h1).trans (hc j hj), hB.trans (hb.mono hB.size)⟩
/-- Five numbers are stored in a block. -/
abbrev five (w : World) (g : Nat) (a b c d e : Int) : World :=
  ((((w.setCell ⟨g, 0, none⟩ (.int .i64 a)).setCell ⟨g, 1, none⟩ (.int .i64 b)).setCell ⟨g, 2, none⟩ (.int .i64 c)).setCell ⟨g, 3, none⟩ (.int .i64 d)).setCell ⟨g, 4, none⟩ (.int .i64 e)
theorem five_at {w : World} {g : Nat} {o d a b m : Int} (hA : At w g o d a b m) (o' d' a' b' m' : Int) : At (five w g o' d' a' b' m') g o' d' a' b' m' := by
  obtain ⟨⟨c0, c1, c2, c3, c4⟩, f0, f1, f2, f3, f4⟩ := hA
  refine ⟨⟨?_, ?_, ?_, ?_, ?_⟩, ?_, ?_, ?_, ?_, ?_⟩ <;> simp [five, go_sem, c0, c1, c2, c3, c4, f0, f1, f2, f3, f4]
theorem five_other (w : World) (g x : Nat) (o d a b m : Int) (hx : ¬ x = g) (j : Nat) : (five w g o d a b m).cell? ⟨x, j, none⟩ = w.cell? ⟨x, j, none⟩ ∧ (five w g o d a b m).frozen? ⟨x, j, none⟩ = w.frozen? ⟨x, j, none⟩ := by
  have hx' : ¬ g = x := fun h => hx h.symm
  constructor
  · simp [five, go_sem]
  · simp [five, go_sem]
theorem five_size (w : World) (g : Nat) (o d a b m : Int) : (five w g o d a b m).heap.size = w.heap.size := by simp [five, World.setCell]
theorem five_below {W w : World} {g : Nat} (h : Below W.heap.size W w) (hg : W.heap.size ≤ g) (o d a b m : Int) : Below W.heap.size W (five w g o d a b m) :=
  ((((h.setCell hg _).setCell hg _).setCell hg _).setCell hg _).setCell hg _
theorem ZW.put {w wr : World} {r g h : Nat} {op : Int} {q : Int × Int × Int × Int} {l : List Nat} (hz : ZW w wr r g h op q l) (q' : Int × Int × Int × Int) : ZW w (five wr g op q'.1 q'.2.1 q'.2.2.1 q'.2.2.2) r g h op q' l := by
  obtain ⟨hR, hG, hne, hlt, hge, hc, hB⟩ := hz
  obtain ⟨⟨c0, c1, c2, c3, c4⟩, f0, f1, f2, f3, f4⟩ := hR
  have k := fun j => five_other wr g r op q'.1 q'.2.1 q'.2.2.1 q'.2.2.2 hne.1 j
  refine ⟨⟨⟨(k 0).1.trans c0, (k 1).1.trans c1, (k 2).1.trans c2, (k 3).1.trans c3, (k 4).1.trans c4⟩, (k 0).2.trans f0, (k 1).2.trans f1, (k 2).2.trans f2, (k 3).2.trans f3, (k 4).2.trans f4⟩, five_at hG _ _ _ _ _, hne, ?_, hge, fun j hj => (five_other wr g h op _ _ _ _ hne.2 j).1.trans (hc j hj), five_below hB hge.2 _ _ _ _ _⟩
  rw [five_size]
  exact hlt
theorem ZW.start {w W : World} {f op : Int} (hb : Below (w.alloc (.cells #[.int .i64 0, .int .i64 0, .int .i64 0, .int .i64 0, .int .i64 0] 27)).heap.size (w.alloc (.cells #[.int .i64 0, .int .i64 0, .int .i64 0, .int .i64 0, .int .i64 0] 27)) W) :
    ZW w ((W.alloc (.cells #[.int .i64 op, .int .i64 0, .int .i64 0, .int .i64 0, .int .i64 0] 27)).alloc (.cells (ov f).toArray 46)) w.heap.size W.heap.size (W.heap.size + 1) op (0, 0, 0, 0) (TX.os f) := by
  have hs : w.heap.size < W.heap.size := Nat.lt_of_lt_of_le (by simp) hb.size
  refine ⟨(((At.new w 27 0 0 0 0 0).below (by simp) hb).more hs _).more (by simp; omega) _, (At.new W 27 op 0 0 0 0).more (by simp) _, ⟨by omega, by omega⟩, ⟨by simp; omega, by simp; omega, by simp⟩, ⟨Nat.le_refl _, Nat.le_of_lt hs⟩, fun j hj => ?_, ((below_new hb).alloc (Nat.le_of_lt hs) _).alloc (by simp; omega) _⟩
  have := ov_cell (W.alloc (.cells #[.int .i64 op, .int .i64 0, .int .i64 0, .int .i64 0, .int .i64 0] 27)) f 46 j hj
  simpa using this
theorem ZW.start0 {w W : World} {op : Int} (hb : Below (w.alloc (.cells #[.int .i64 0, .int .i64 0, .int .i64 0, .int .i64 0, .int .i64 0] 27)).heap.size (w.alloc (.cells #[.int .i64 0, .int .i64 0, .int .i64 0, .int .i64 0, .int .i64 0] 27)) W) :
    ZW w (W.alloc (.cells #[.int .i64 op, .int .i64 0, .int .i64 0, .int .i64 0, .int .i64 0] 27)) w.heap.size W.heap.size w.heap.size op (0, 0, 0, 0) [] := by
  have hs : w.heap.size < W.heap.size := Nat.lt_of_lt_of_le (by simp) hb.size
  exact ⟨((At.new w 27 0 0 0 0 0).below (by simp) hb).more hs _, At.new W 27 op 0 0 0 0, ⟨by omega, by omega⟩, ⟨by simp; omega, by simp, by simp; omega⟩, ⟨Nat.le_refl _, Nat.le_of_lt hs⟩, fun j hj => by simp at hj, (below_new hb).alloc (Nat.le_of_lt hs) _⟩
theorem stp_next {l : List Nat} {r : List UInt8} {k : Nat} {Y V U : ByteArray} {q : Int × Int × Int × Int} {o : Nat} (hY : Y.data.toList = (TX.stp l r k).1) (hq : (TX.stp l r k).2 = q) (ho : l.getD k 4 = o) (hV : (⟨(Lib.cut Y.data.toList [44, 32]).1.toArray⟩ : ByteArray) = V) (hU : (⟨(Lib.cut Y.data.toList [44, 32]).2.1.toArray⟩ : ByteArray) = U) :
    U.data.toList = (TX.stp l r (k + 1)).1 ∧ (TX.stp l r (k + 1)).2 = TX.wth o (TX.nb V.data.toList) q := by
  rw [TX.stp, ← hY, hq, ho, ← hV, ← hU]
  exact ⟨rfl, rfl⟩
theorem pe_fin_yes {s P : ByteArray} {op : Int} {q : Int × Int × Int × Int} (ho : TX.oo (TX.hd s.data.toList) = op) (h0 : ¬ op = 0) (hq : TX.cand op s.data.toList = q) (hP : (⟨(TX.pr op q.1 q.2.1 q.2.2.1 q.2.2.2).toArray⟩ : ByteArray) = P) (hE : P.toList = s.toList) :
    Ending.returned (.tuple #[.agg #[.int .i64 op, .int .i64 q.1, .int .i64 q.2.1, .int .i64 q.2.2.1, .int .i64 q.2.2.2], .int .i64 0]) = .returned (.tuple #[.agg #[.int .i64 (TX.pq s.data.toList).1, .int .i64 (TX.pq s.data.toList).2.1, .int .i64 (TX.pq s.data.toList).2.2.1, .int .i64 (TX.pq s.data.toList).2.2.2.1, .int .i64 (TX.pq s.data.toList).2.2.2.2], .int .i64 (TX.pe s.data.toList)]) := by
  subst ho
  subst hq
  obtain ⟨e1, e2⟩ := TX.pe_own_yes h0 (eq_lists hP hE)
  rw [e1, e2]
theorem pe_fin_no {s P : ByteArray} {op : Int} {q : Int × Int × Int × Int} (ho : TX.oo (TX.hd s.data.toList) = op) (h0 : ¬ op = 0) (hq : TX.cand op s.data.toList = q) (hP : (⟨(TX.pr op q.1 q.2.1 q.2.2.1 q.2.2.2).toArray⟩ : ByteArray) = P) (hE : ¬ P.toList = s.toList) :
    Ending.returned (.tuple #[.agg #[.int .i64 0, .int .i64 0, .int .i64 0, .int .i64 0, .int .i64 0], .int .i64 2]) = .returned (.tuple #[.agg #[.int .i64 (TX.pq s.data.toList).1, .int .i64 (TX.pq s.data.toList).2.1, .int .i64 (TX.pq s.data.toList).2.2.1, .int .i64 (TX.pq s.data.toList).2.2.2.1, .int .i64 (TX.pq s.data.toList).2.2.2.2], .int .i64 (TX.pe s.data.toList)]) := by
  subst ho
  subst hq
  obtain ⟨e1, e2⟩ := TX.pe_own_no h0 (ne_lists hP hE)
  rw [e1, e2]
set_option maxHeartbeats 1600000 in
theorem parse_some (s : ByteArray) (op f : Int) (w : World) (hs : s.size ≤ 200) (ho : TX.oo (TX.hd s.data.toList) = op) (h0 : ¬ op = 0) (hf : IM.fm op = f) (hf1 : 1 ≤ f ∧ f ≤ 11) (hf2 : ¬ f = 10) (ht : Tb w) :
    Calls Tryd.prog 16 #[.string s] w fun e w' => e = .returned (.tuple #[.agg #[.int .i64 (TX.pq s.data.toList).1, .int .i64 (TX.pq s.data.toList).2.1, .int .i64 (TX.pq s.data.toList).2.2.1, .int .i64 (TX.pq s.data.toList).2.2.2.1, .int .i64 (TX.pq s.data.toList).2.2.2.2], .int .i64 (TX.pe s.data.toList)]) ∧ Below w.heap.size w w' := by
  have HC := Lib.hid (fun W (hW : Tb W) => cut_bl s W hs hW)
  have HO := Lib.hid (fun W (hW : Tb W) => op_any ⟨(TX.hd s.data.toList).toArray⟩ W hW)
  have HO' : Hid (∀ W, Tb W → Calls Tryd.prog 11 #[.string ⟨(TX.hd s.data.toList).toArray⟩] W fun e w' => e = .returned (.int .i64 op) ∧ W = w') := by rw [← ho]; exact HO
  clear HO
  have H2 := Lib.hid (fun W => form_any op W)
  rw [hf] at H2
  have HT := Lib.hid ht
  have T0 := Lib.hid (ht.new (.cells #[.int .i64 0, .int .i64 0, .int .i64 0, .int .i64 0, .int .i64 0] 27))
  have hn := os_len f
  have h0' : (op == 0) = false := by simpa using h0
  clear ht
  obtain ⟨X, hX⟩ : ∃ X, (⟨(TX.hd s.data.toList).toArray⟩ : ByteArray) = X := ⟨_, rfl⟩
  obtain ⟨R, hR⟩ : ∃ R, (⟨(TX.rest s.data.toList).toArray⟩ : ByteArray) = R := ⟨_, rfl⟩
  obtain ⟨bo, hbo⟩ : ∃ b, (Lib.cut s.data.toList [32]).2.2 = b := ⟨_, rfl⟩
  rw [hX, hR, hbo] at HC
  rw [hX] at HO'
  have hRs : R.size ≤ 200 := by
    have := (cut_len s.data.toList [32]).2
    rw [NM.len_eq] at this
    rw [← hR, ba_size]
    exact Nat.le_trans this hs
  have HR := Lib.hid hR
  clear hX hR hbo
  go_enter Tryd.func16, Tryd.ntmps16
  go_wp2_with fail
  refine (HC.out _ T0.out).mono ?_; rintro e W ⟨rfl, hb, hz⟩
  have T1 := Lib.hid (T0.out.on hb)
  have Z1 := Lib.hid (ZW.start (f := f) (op := op) hb)
  clear hb hz HC T0
  go_wp2_with (first
    | (go_at_call 11; refine (HO'.out _ T1.out).mono ?_; rintro e w2 ⟨rfl, rfl⟩)
    | (go_at_call 23; refine (H2.out _).mono ?_; rintro e w2 ⟨rfl, rfl⟩)
    | (go_at_call 22; refine (operands_some f _ hf1 hf2).mono ?_; rintro e w2 ⟨rfl, rfl⟩))
  have HOo := Lib.hid ho
  have HQ0 := Lib.hid (show TX.cand op s.data.toList = (TX.stp (TX.os f) (TX.rest s.data.toList) (TX.os f).length).2 by unfold TX.cand; rw [hf])
  clear ho hf
  obtain ⟨n, hN⟩ : ∃ n, (TX.os f).length = n := ⟨_, rfl⟩
  have HN := Lib.hid hN
  rw [hN] at hn HQ0 ⊢
  clear hN T1
  generalize W.heap.size = g at *
  go_loopw [5, 29] (fun x i wr => ∃ (k : Nat) (Y : ByteArray), k ≤ n ∧ Y.size ≤ 200 ∧ x = .string Y ∧ i = .int .i64 k ∧ Hid (Y.data.toList = (TX.stp (TX.os f) (TX.rest s.data.toList) k).1) ∧ Hid (ZW w wr w.heap.size g (g + 1) op (TX.stp (TX.os f) (TX.rest s.data.toList) k).2 (TX.os f))) (fun _ i _ => n - (intOf i).toNat)
  case atStart => exact ⟨0, R, by omega, hRs, rfl, rfl, Lib.hid (by rw [← HR.out]; rfl), Z1⟩
  case round =>
    obtain ⟨k, Y, hk, hY, rfl, rfl, hYl, hZ⟩ := hrel
    by_cases hlt : (k : Int) < n
    · have ho := os_getD_le f k (by rw [HN.out]; omega)
      have hx := hZ.out.2.2.2.2.2.1 k (by rw [HN.out]; omega)
      obtain ⟨q, hq⟩ : ∃ q, (TX.stp (TX.os f) (TX.rest s.data.toList) k).2 = q := ⟨_, rfl⟩
      obtain ⟨V, hV⟩ : ∃ V, (⟨(Lib.cut Y.data.toList [44, 32]).1.toArray⟩ : ByteArray) = V := ⟨_, rfl⟩
      obtain ⟨U, hU⟩ : ∃ U, (⟨(Lib.cut Y.data.toList [44, 32]).2.1.toArray⟩ : ByteArray) = U := ⟨_, rfl⟩
      obtain ⟨b2, hb2⟩ : ∃ b, (Lib.cut Y.data.toList [44, 32]).2.2 = b := ⟨_, rfl⟩
      obtain ⟨o, hoo⟩ : ∃ o, (TX.os f).getD k 4 = o := ⟨_, rfl⟩
      have HX := Lib.hid (stp_next hYl.out hq hoo hV hU)
      have HCm := Lib.hid (fun W (hW : Tb W) => cut_cm Y W hY hW)
      rw [hV, hU, hb2] at HCm
      have hl := cut_len Y.data.toList [44, 32]
      rw [NM.len_eq] at hl
      have hVs : V.size ≤ 9223372036854775807 := by rw [← hV, ba_size]; omega
      have hUs : U.size ≤ 200 := by rw [← hU, ba_size]; omega
      clear hl
      rw [hoo] at ho hx
      rw [hq] at hZ
      have HNm := Lib.hid (fun W => number_any V W hVs)
      obtain ⟨nn, hnn⟩ : ∃ x, TX.nb V.data.toList = x := ⟨_, rfl⟩
      rw [hnn] at HNm HX
      have HWt := Lib.hid (fun W => with_any op nn q o W ho)
      obtain ⟨q', hq'⟩ : ∃ x, TX.wth o nn q = x := ⟨_, rfl⟩
      rw [hq'] at HWt HX
      clear hq hV hU hb2 hoo hnn hq' hYl hVs
      go_wp2_with (go_at_call 31; refine (HCm.out _ (HT.out.on hZ.out.2.2.2.2.2.2)).mono ?_; rintro e W2 ⟨rfl, hb, hz⟩)
      have Z2 := Lib.hid (hZ.out.on hb)
      clear hb hz hx hZ
      obtain ⟨⟨c0, c1, c2, c3, c4⟩, f0, f1, f2, f3, f4⟩ := Z2.out.2.1
      go_region_with (first
        | (go_at_call 33; refine (HNm.out _).mono ?_; rintro e w4 ⟨rfl, hb4⟩; have Z4 := Lib.hid ((Z2.out.on (Below.refl _ _).drew).on hb4); obtain ⟨⟨d0, d1, d2, d3, d4⟩, e0, e1, e2, e3, e4⟩ := Z4.out.2.1)
        | (go_at_call 32; refine (HWt.out _).mono ?_; rintro e w5 ⟨rfl, hb5⟩; have Z5 := Lib.hid (Z4.out.on hb5); obtain ⟨⟨r0, r1, r2, r3, r4⟩, s0, s1, s2, s3, s4⟩ := Z5.out.2.1))
      all_goals
        have Z6 := Lib.hid (Z5.out.put q')
        go_wp2
        go_roundw
        case rel => exact ⟨k + 1, U, by omega, hUs, rfl, by go_num, Lib.hid HX.out.1, by rw [HX.out.2]; exact Z6⟩
        case measure => simp [intOf]; omega
    · obtain rfl : k = n := by omega
      obtain ⟨q, hq⟩ : ∃ q, (TX.stp (TX.os f) (TX.rest s.data.toList) k).2 = q := ⟨_, rfl⟩
      rw [hq] at hZ HQ0
      have HQ := HQ0
      clear hq HQ0 hYl
      obtain ⟨P, hP⟩ : ∃ P, (⟨(TX.pr op q.1 q.2.1 q.2.2.1 q.2.2.2).toArray⟩ : ByteArray) = P := ⟨_, rfl⟩
      have HPr := Lib.hid (fun W (hW : Tb W) => print_any op q.1 q.2.1 q.2.2.1 q.2.2.2 W hW)
      rw [hP] at HPr
      obtain ⟨⟨c0, c1, c2, c3, c4⟩, f0, f1, f2, f3, f4⟩ := hZ.out.2.1
      go_wp2_with fail
      refine (HPr.out _ (HT.out.on hZ.out.2.2.2.2.2.2)).mono ?_; rintro e w6 ⟨rfl, hb6⟩
      have Z6 := Lib.hid (hZ.out.on hb6)
      clear hb6 hZ c0 c1 c2 c3 c4 f0 f1 f2 f3 f4
      obtain ⟨⟨c0, c1, c2, c3, c4⟩, f0, f1, f2, f3, f4⟩ := Z6.out.2.1
      obtain ⟨⟨k0, k1, k2, k3, k4⟩, l0, l1, l2, l3, l4⟩ := Z6.out.1
      have n1 := Z6.out.2.2.1.1
      have n2 : ¬ g = w.heap.size := fun e => n1 e.symm
      have B6 := Lib.hid Z6.out.2.2.2.2.2.2
      clear Z6
      by_cases hE : P.toList = s.toList
      · have hE' : (P.toList == s.toList) = true := by simpa using hE
        have HF := Lib.hid (pe_fin_yes HOo.out h0 HQ.out hP hE)
        clear hP
        go_wp2
        refine bodyPost_ret (v := .tuple #[.agg #[.int .i64 op, .int .i64 q.1, .int .i64 q.2.1, .int .i64 q.2.2.1, .int .i64 q.2.2.2], .int .i64 0]) (by simp [results, Tryd.results16, go_sem, k0, k1, k2, k3, k4]) rfl ⟨HF.out, ?_⟩
        exact five_below B6.out (Nat.le_refl _) _ _ _ _ _
      · have hE' : (P.toList == s.toList) = false := by simpa using hE
        have HF := Lib.hid (pe_fin_no HOo.out h0 HQ.out hP hE)
        clear hP
        go_wp2
        refine bodyPost_ret (v := .tuple #[.agg #[.int .i64 0, .int .i64 0, .int .i64 0, .int .i64 0, .int .i64 0], .int .i64 2]) (by simp [results, Tryd.results16, go_sem, k0, k1, k2, k3, k4]) rfl ⟨HF.out, ?_⟩
        exact five_below B6.out (Nat.le_refl _) _ _ _ _ _
set_option maxHeartbeats 1600000 in
theorem parse_none (s : ByteArray) (op : Int) (w : World) (hs : s.size ≤ 200) (ho : TX.oo (TX.hd s.data.toList) = op) (h0 : ¬ op = 0) (hf : IM.fm op = 10) (ht : Tb w) :
    Calls Tryd.prog 16 #[.string s] w fun e w' => e = .returned (.tuple #[.agg #[.int .i64 (TX.pq s.data.toList).1, .int .i64 (TX.pq s.data.toList).2.1, .int .i64 (TX.pq s.data.toList).2.2.1, .int .i64 (TX.pq s.data.toList).2.2.2.1, .int .i64 (TX.pq s.data.toList).2.2.2.2], .int .i64 (TX.pe s.data.toList)]) ∧ Below w.heap.size w w' := by
  have HC := Lib.hid (fun W (hW : Tb W) => cut_bl s W hs hW)
  have HO := Lib.hid (fun W (hW : Tb W) => op_any ⟨(TX.hd s.data.toList).toArray⟩ W hW)
  have HO' : Hid (∀ W, Tb W → Calls Tryd.prog 11 #[.string ⟨(TX.hd s.data.toList).toArray⟩] W fun e w' => e = .returned (.int .i64 op) ∧ W = w') := by rw [← ho]; exact HO
  clear HO
  have H2 := Lib.hid (fun W => form_any op W)
  rw [hf] at H2
  have HT := Lib.hid ht
  have T0 := Lib.hid (ht.new (.cells #[.int .i64 0, .int .i64 0, .int .i64 0, .int .i64 0, .int .i64 0] 27))
  have h0' : (op == 0) = false := by simpa using h0
  clear ht
  obtain ⟨X, hX⟩ : ∃ X, (⟨(TX.hd s.data.toList).toArray⟩ : ByteArray) = X := ⟨_, rfl⟩
  obtain ⟨R, hR⟩ : ∃ R, (⟨(TX.rest s.data.toList).toArray⟩ : ByteArray) = R := ⟨_, rfl⟩
  obtain ⟨bo, hbo⟩ : ∃ b, (Lib.cut s.data.toList [32]).2.2 = b := ⟨_, rfl⟩
  rw [hX, hR, hbo] at HC
  rw [hX] at HO'
  have hRs : R.size ≤ 200 := by
    have := (cut_len s.data.toList [32]).2
    rw [NM.len_eq] at this
    rw [← hR, ba_size]
    exact Nat.le_trans this hs
  have HR := Lib.hid hR
  clear hX hR hbo
  go_enter Tryd.func16, Tryd.ntmps16
  go_wp2_with fail
  refine (HC.out _ T0.out).mono ?_; rintro e W ⟨rfl, hb, hz⟩
  have T1 := Lib.hid (T0.out.on hb)
  have Z1 := Lib.hid (ZW.start0 (op := op) hb)
  clear hb hz HC T0
  go_wp2_with (first
    | (go_at_call 11; refine (HO'.out _ T1.out).mono ?_; rintro e w2 ⟨rfl, rfl⟩)
    | (go_at_call 23; refine (H2.out _).mono ?_; rintro e w2 ⟨rfl, rfl⟩)
    | (go_at_call 22; refine (operands_none _).mono ?_; rintro e w2 ⟨rfl, rfl⟩))
  have HOo := Lib.hid ho
  have HQ0 := Lib.hid (show TX.cand op s.data.toList = (0, 0, 0, 0) by unfold TX.cand; rw [hf]; rfl)
  clear ho hf T1
  obtain ⟨q, hq⟩ : ∃ q : Int × Int × Int × Int, (0, 0, 0, 0) = q := ⟨_, rfl⟩
  have HQ := Lib.hid (HQ0.out.trans hq)
  clear HQ0
  generalize W.alloc _ = W3 at Z1 ⊢
  generalize W.heap.size = g at *
  rw [hq] at Z1
  clear hq
  refine wp_loop_rounds 1 ?_
  rw [rounds_succ]
  obtain ⟨P, hP⟩ : ∃ P, (⟨(TX.pr op q.1 q.2.1 q.2.2.1 q.2.2.2).toArray⟩ : ByteArray) = P := ⟨_, rfl⟩
  have HPr := Lib.hid (fun W (hW : Tb W) => print_any op q.1 q.2.1 q.2.2.1 q.2.2.2 W hW)
  rw [hP] at HPr
  obtain ⟨⟨c0, c1, c2, c3, c4⟩, f0, f1, f2, f3, f4⟩ := Z1.out.2.1
  go_wp2_with fail
  refine (HPr.out _ (HT.out.on Z1.out.2.2.2.2.2.2)).mono ?_; rintro e w6 ⟨rfl, hb6⟩
  have Z6 := Lib.hid (Z1.out.on hb6)
  clear hb6 Z1 c0 c1 c2 c3 c4 f0 f1 f2 f3 f4
  obtain ⟨⟨c0, c1, c2, c3, c4⟩, f0, f1, f2, f3, f4⟩ := Z6.out.2.1
  obtain ⟨⟨k0, k1, k2, k3, k4⟩, l0, l1, l2, l3, l4⟩ := Z6.out.1
  have n1 := Z6.out.2.2.1.1
  have n2 : ¬ g = w.heap.size := fun e => n1 e.symm
  have B6 := Lib.hid Z6.out.2.2.2.2.2.2
  clear Z6
  by_cases hE : P.toList = s.toList
  · have hE' : (P.toList == s.toList) = true := by simpa using hE
    have HF := Lib.hid (pe_fin_yes HOo.out h0 HQ.out hP hE)
    clear hP
    go_wp2
    refine bodyPost_ret (v := .tuple #[.agg #[.int .i64 op, .int .i64 q.1, .int .i64 q.2.1, .int .i64 q.2.2.1, .int .i64 q.2.2.2], .int .i64 0]) (by simp [results, Tryd.results16, go_sem, k0, k1, k2, k3, k4]) rfl ⟨HF.out, ?_⟩
    exact five_below B6.out (Nat.le_refl _) _ _ _ _ _
  · have hE' : (P.toList == s.toList) = false := by simpa using hE
    have HF := Lib.hid (pe_fin_no HOo.out h0 HQ.out hP hE)
    clear hP
    go_wp2
    refine bodyPost_ret (v := .tuple #[.agg #[.int .i64 0, .int .i64 0, .int .i64 0, .int .i64 0, .int .i64 0], .int .i64 2]) (by simp [results, Tryd.results16, go_sem, k0, k1, k2, k3, k4]) rfl ⟨HF.out, ?_⟩
    exact five_below B6.out (Nat.le_refl _) _ _ _ _ _
theorem pe_fin_nine {s : ByteArray} (ho : TX.oo (TX.hd s.data.toList) = 0) :
    Ending.returned (.tuple #[.agg #[.int .i64 0, .int .i64 0, .int .i64 0, .int .i64 0, .int .i64 0], .int .i64 9]) = .returned (.tuple #[.agg #[.int .i64 (TX.pq s.data.toList).1, .int .i64 (TX.pq s.data.toList).2.1, .int .i64 (TX.pq s.data.toList).2.2.1, .int .i64 (TX.pq s.data.toList).2.2.2.1, .int .i64 (TX.pq s.data.toList).2.2.2.2], .int .i64 (TX.pe s.data.toList)]) := by
  obtain ⟨e1, e2⟩ := TX.pe_nine ho
  rw [e1, e2]
set_option maxHeartbeats 1600000 in
theorem parse_op (s : ByteArray) (w : World) (hs : s.size ≤ 200) (ho : TX.oo (TX.hd s.data.toList) = 0) (ht : Tb w) :
    Calls Tryd.prog 16 #[.string s] w fun e w' => e = .returned (.tuple #[.agg #[.int .i64 (TX.pq s.data.toList).1, .int .i64 (TX.pq s.data.toList).2.1, .int .i64 (TX.pq s.data.toList).2.2.1, .int .i64 (TX.pq s.data.toList).2.2.2.1, .int .i64 (TX.pq s.data.toList).2.2.2.2], .int .i64 (TX.pe s.data.toList)]) ∧ Below w.heap.size w w' := by
  have HC := Lib.hid (fun W (hW : Tb W) => cut_bl s W hs hW)
  have HO := Lib.hid (fun W (hW : Tb W) => op_any ⟨(TX.hd s.data.toList).toArray⟩ W hW)
  have HO' : Hid (∀ W, Tb W → Calls Tryd.prog 11 #[.string ⟨(TX.hd s.data.toList).toArray⟩] W fun e w' => e = .returned (.int .i64 0) ∧ W = w') := by rw [← ho]; exact HO
  clear HO
  have HF := Lib.hid (pe_fin_nine ho)
  have T0 := Lib.hid (ht.new (.cells #[.int .i64 0, .int .i64 0, .int .i64 0, .int .i64 0, .int .i64 0] 27))
  clear ht ho
  obtain ⟨X, hX⟩ : ∃ X, (⟨(TX.hd s.data.toList).toArray⟩ : ByteArray) = X := ⟨_, rfl⟩
  obtain ⟨R, hR⟩ : ∃ R, (⟨(TX.rest s.data.toList).toArray⟩ : ByteArray) = R := ⟨_, rfl⟩
  obtain ⟨bo, hbo⟩ : ∃ b, (Lib.cut s.data.toList [32]).2.2 = b := ⟨_, rfl⟩
  rw [hX, hR, hbo] at HC
  rw [hX] at HO'
  clear hX hR hbo
  go_enter Tryd.func16, Tryd.ntmps16
  go_wp2_with fail
  refine (HC.out _ T0.out).mono ?_; rintro e W ⟨rfl, hb, hz⟩
  have T1 := Lib.hid (T0.out.on hb)
  have Z1 := Lib.hid (ZW.start0 (op := 0) hb)
  clear hb hz HC T0
  go_wp2_with fail
  refine (HO'.out _ T1.out).mono ?_; rintro e w2 ⟨rfl, rfl⟩
  obtain ⟨⟨k0, k1, k2, k3, k4⟩, l0, l1, l2, l3, l4⟩ := Z1.out.1
  have n1 := Z1.out.2.2.1.1
  have n2 : ¬ W.heap.size = w.heap.size := fun e => n1 e.symm
  have B6 := Lib.hid Z1.out.2.2.2.2.2.2
  clear Z1 T1
  go_wp2
  refine bodyPost_ret (v := .tuple #[.agg #[.int .i64 0, .int .i64 0, .int .i64 0, .int .i64 0, .int .i64 0], .int .i64 9]) (by simp [results, Tryd.results16, go_sem, k0, k1, k2, k3, k4]) rfl ⟨HF.out, ?_⟩
  exact five_below B6.out (Nat.le_refl _) _ _ _ _ _
theorem parse_any (s : ByteArray) (w : World) (hs : s.size ≤ 200) (ht : Tb w) : Calls Tryd.prog 16 #[.string s] w fun e w' => e = .returned (.tuple #[.agg #[.int .i64 (TX.pq s.data.toList).1, .int .i64 (TX.pq s.data.toList).2.1, .int .i64 (TX.pq s.data.toList).2.2.1, .int .i64 (TX.pq s.data.toList).2.2.2.1, .int .i64 (TX.pq s.data.toList).2.2.2.2], .int .i64 (TX.pe s.data.toList)]) ∧ Below w.heap.size w w' := by
  by_cases h0 : TX.oo (TX.hd s.data.toList) = 0
  · exact parse_op s w hs h0 ht
  · have hb := TX.oo_bd (TX.hd s.data.toList)
    have h1 : 1 ≤ TX.oo (TX.hd s.data.toList) ∧ TX.oo (TX.hd s.data.toList) ≤ 63 := by omega
    have hf0 := IM.fm_some _ h1
    have hf1 := IM.fm_bd (TX.oo (TX.hd s.data.toList))
    by_cases hf : IM.fm (TX.oo (TX.hd s.data.toList)) = 10
    · exact parse_none s _ w hs rfl h0 hf ht
    · exact parse_some s _ _ w hs rfl h0 rfl (by omega) hf ht
end Go.Proofs.YtfgkcjalfhbjjaaDoor
