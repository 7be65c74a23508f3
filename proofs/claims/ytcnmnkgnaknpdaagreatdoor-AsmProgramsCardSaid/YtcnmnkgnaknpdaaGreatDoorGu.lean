/-
  What the reference's Parse answers at every text of at most 400,000 bytes; it changes no memory that was there.
  What the reference's Bytes answers at zeros.
  What the reference's Bytes answers at an instruction.
  What the reference's Bytes answers at words and at bytes: the values, one behind another.
-/
import Derived.Test.YtcnmnkgnaknpdaaGreatDoorGh
import Derived.Test.YtcnmnkgnaknpdaaGreatDoorGq
import Derived.Test.YtcnmnkgnaknpdaaGreatDoorGt
import Derived.Test.YtcnmnkgnaknpdaaGreatDoorGn
import Derived.Deep.RegionLaw

/-! S07WalkG -/
namespace Go.Proofs.YtcnmnkgnaknpdaaGreatDoor.S07
open Go.RowKit S02 S06
theorem rnumber_z (s : ByteArray) (z : Int) (p : Nat) (w : World) (hz : z = p) (hs : s.size ≤ 400000) (hpp : p ≤ 400100) :
    Calls Tryz.prog 106 #[.string s, .int .i64 z] w fun e w' => e = .returned (.int .i64 (TX.rn s.data.toList p)) ∧ w = w' := by
  subst hz
  exact rnumber_any s p w hs hpp
theorem ZW.set0 {w wr : World} {r g h : Nat} {op : Int} {q : Int × Int × Int × Int} {l : List Nat} (hz : ZW w wr r g h op q l) (n : Int) : ZW w (wr.setCell ⟨g, 1, none⟩ (.int .i64 n)) r g h op (TX.wth 0 n q) l := by
  obtain ⟨hR, hG, hne, ⟨h1, h2, h3⟩, hge, hc, hB⟩ := hz
  obtain ⟨⟨c0, c1, c2, c3, c4⟩, f0, f1, f2, f3, f4⟩ := hR
  obtain ⟨⟨d0, d1, d2, d3, d4⟩, e0, e1, e2, e3, e4⟩ := hG
  have n1 := hne.1
  have n2 := hne.2
  refine ⟨⟨⟨?_, ?_, ?_, ?_, ?_⟩, ?_, ?_, ?_, ?_, ?_⟩, ⟨⟨?_, ?_, ?_, ?_, ?_⟩, ?_, ?_, ?_, ?_, ?_⟩, hne, ⟨?_, ?_, ?_⟩, hge, fun j hj => ?_, hB.setCell hge.2 _⟩
  all_goals first
    | (simp [go_sem, TX.wth, c0, c1, c2, c3, c4, f0, f1, f2, f3, f4, d0, d1, d2, d3, d4, e0, e1, e2, e3, e4]; done)
    | (simp [World.setCell]; assumption)
    | (have := hc j hj; simp [go_sem]; simpa using this)
theorem ZW.set1 {w wr : World} {r g h : Nat} {op : Int} {q : Int × Int × Int × Int} {l : List Nat} (hz : ZW w wr r g h op q l) (n : Int) : ZW w (wr.setCell ⟨g, 2, none⟩ (.int .i64 n)) r g h op (TX.wth 1 n q) l := by
  obtain ⟨hR, hG, hne, ⟨h1, h2, h3⟩, hge, hc, hB⟩ := hz
  obtain ⟨⟨c0, c1, c2, c3, c4⟩, f0, f1, f2, f3, f4⟩ := hR
  obtain ⟨⟨d0, d1, d2, d3, d4⟩, e0, e1, e2, e3, e4⟩ := hG
  have n1 := hne.1
  have n2 := hne.2
  refine ⟨⟨⟨?_, ?_, ?_, ?_, ?_⟩, ?_, ?_, ?_, ?_, ?_⟩, ⟨⟨?_, ?_, ?_, ?_, ?_⟩, ?_, ?_, ?_, ?_, ?_⟩, hne, ⟨?_, ?_, ?_⟩, hge, fun j hj => ?_, hB.setCell hge.2 _⟩
  all_goals first
    | (simp [go_sem, TX.wth, c0, c1, c2, c3, c4, f0, f1, f2, f3, f4, d0, d1, d2, d3, d4, e0, e1, e2, e3, e4]; done)
    | (simp [World.setCell]; assumption)
    | (have := hc j hj; simp [go_sem]; simpa using this)
theorem ZW.set2 {w wr : World} {r g h : Nat} {op : Int} {q : Int × Int × Int × Int} {l : List Nat} (hz : ZW w wr r g h op q l) (n : Int) : ZW w (wr.setCell ⟨g, 3, none⟩ (.int .i64 n)) r g h op (TX.wth 2 n q) l := by
  obtain ⟨hR, hG, hne, ⟨h1, h2, h3⟩, hge, hc, hB⟩ := hz
  obtain ⟨⟨c0, c1, c2, c3, c4⟩, f0, f1, f2, f3, f4⟩ := hR
  obtain ⟨⟨d0, d1, d2, d3, d4⟩, e0, e1, e2, e3, e4⟩ := hG
  have n1 := hne.1
  have n2 := hne.2
  refine ⟨⟨⟨?_, ?_, ?_, ?_, ?_⟩, ?_, ?_, ?_, ?_, ?_⟩, ⟨⟨?_, ?_, ?_, ?_, ?_⟩, ?_, ?_, ?_, ?_, ?_⟩, hne, ⟨?_, ?_, ?_⟩, hge, fun j hj => ?_, hB.setCell hge.2 _⟩
  all_goals first
    | (simp [go_sem, TX.wth, c0, c1, c2, c3, c4, f0, f1, f2, f3, f4, d0, d1, d2, d3, d4, e0, e1, e2, e3, e4]; done)
    | (simp [World.setCell]; assumption)
    | (have := hc j hj; simp [go_sem]; simpa using this)
theorem ZW.set3 {w wr : World} {r g h : Nat} {op : Int} {q : Int × Int × Int × Int} {l : List Nat} (hz : ZW w wr r g h op q l) (n : Int) : ZW w (wr.setCell ⟨g, 4, none⟩ (.int .i64 n)) r g h op (TX.wth 3 n q) l := by
  obtain ⟨hR, hG, hne, ⟨h1, h2, h3⟩, hge, hc, hB⟩ := hz
  obtain ⟨⟨c0, c1, c2, c3, c4⟩, f0, f1, f2, f3, f4⟩ := hR
  obtain ⟨⟨d0, d1, d2, d3, d4⟩, e0, e1, e2, e3, e4⟩ := hG
  have n1 := hne.1
  have n2 := hne.2
  refine ⟨⟨⟨?_, ?_, ?_, ?_, ?_⟩, ?_, ?_, ?_, ?_, ?_⟩, ⟨⟨?_, ?_, ?_, ?_, ?_⟩, ?_, ?_, ?_, ?_, ?_⟩, hne, ⟨?_, ?_, ?_⟩, hge, fun j hj => ?_, hB.setCell hge.2 _⟩
  all_goals first
    | (simp [go_sem, TX.wth, c0, c1, c2, c3, c4, f0, f1, f2, f3, f4, d0, d1, d2, d3, d4, e0, e1, e2, e3, e4]; done)
    | (simp [World.setCell]; assumption)
    | (have := hc j hj; simp [go_sem]; simpa using this)
theorem ZW.start2 {w W W2 : World} {op : Int} {v : Value} {ats : List Nat} {g cap : Nat} (hb : Below (w.alloc (.cells #[.int .i64 0, .int .i64 0, .int .i64 0, .int .i64 0, .int .i64 0] 45)).heap.size (w.alloc (.cells #[.int .i64 0, .int .i64 0, .int .i64 0, .int .i64 0, .int .i64 0] 45)) W)
    (hr : IRow (W.alloc (.cells #[.int .i64 op, .int .i64 0, .int .i64 0, .int .i64 0, .int .i64 0] 45)) W2 v ats) (hg : (W.alloc (.cells #[.int .i64 op, .int .i64 0, .int .i64 0, .int .i64 0, .int .i64 0] 45)).heap.size ≤ g) (hg2 : g < W2.heap.size) (hc : ∀ i, i < ats.length → W2.cell? ⟨g, i, none⟩ = some (.int .i64 (ats.getD i 0 : Nat))) (_ : cap = cap) :
    ZW w W2 w.heap.size W.heap.size g op (0, 0, 0, 0) ats := by
  obtain ⟨z1, z2, z3, ⟨z4, z5, _⟩, z7, _, z9⟩ := (ZW.start0 (op := op) hb).on hr.2
  refine ⟨z1, z2, ⟨z3.1, by simp at hg; omega⟩, ⟨z4, z5, hg2⟩, z7, fun j hj => ?_, z9⟩
  rw [hc j hj]
  simp [List.getD_eq_getElem?_getD, hj]
theorem rst_next {l : List UInt8} {o p : List Nat} {k x y : Nat} {q : Int × Int × Int × Int} (hq : TX.rst l o p k = q) (ho : o.getD k 4 = x) (hp : p.getD k 4 = y) (hk : k < p.length) :
    TX.rst l o p (k + 1) = TX.wth x (TX.rn l (y + if x = 3 then 0 else 1)) q := by
  have : p.getD k 0 = y := by
    rw [List.getD_eq_getElem?_getD, List.getElem?_eq_getElem hk] at hp ⊢
    exact hp
  rw [TX.rst, hq, ho, this]
theorem rpe_fin_yes {s P : ByteArray} {op : Int} {q : Int × Int × Int × Int} (ho : TX.oo (TX.hd s.data.toList) = op) (h0 : ¬ op = 0) (hq : TX.rcand op s.data.toList = q) (hP : (⟨(TX.pr op q.1 q.2.1 q.2.2.1 q.2.2.2).toArray⟩ : ByteArray) = P) (hE : P.toList = s.toList) :
    Ending.returned (.tuple #[.agg #[.int .i64 op, .int .i64 q.1, .int .i64 q.2.1, .int .i64 q.2.2.1, .int .i64 q.2.2.2], .int .i64 0]) = .returned (.tuple #[.agg #[.int .i64 (TX.pq s.data.toList).1, .int .i64 (TX.pq s.data.toList).2.1, .int .i64 (TX.pq s.data.toList).2.2.1, .int .i64 (TX.pq s.data.toList).2.2.2.1, .int .i64 (TX.pq s.data.toList).2.2.2.2], .int .i64 (TX.pe s.data.toList)]) := by
  subst ho
  subst hq
  obtain ⟨e1, e2⟩ := TX.pe_ref_yes h0 (eq_lists hP hE)
  rw [e1, e2]
theorem rpe_fin_no {s P : ByteArray} {op : Int} {q : Int × Int × Int × Int} (ho : TX.oo (TX.hd s.data.toList) = op) (h0 : ¬ op = 0) (hq : TX.rcand op s.data.toList = q) (hP : (⟨(TX.pr op q.1 q.2.1 q.2.2.1 q.2.2.2).toArray⟩ : ByteArray) = P) (hE : ¬ P.toList = s.toList) :
    Ending.returned (.tuple #[.agg #[.int .i64 0, .int .i64 0, .int .i64 0, .int .i64 0, .int .i64 0], .int .i64 2]) = .returned (.tuple #[.agg #[.int .i64 (TX.pq s.data.toList).1, .int .i64 (TX.pq s.data.toList).2.1, .int .i64 (TX.pq s.data.toList).2.2.1, .int .i64 (TX.pq s.data.toList).2.2.2.1, .int .i64 (TX.pq s.data.toList).2.2.2.2], .int .i64 (TX.pe s.data.toList)]) := by
  subst ho
  subst hq
  obtain ⟨e1, e2⟩ := TX.pe_ref_no h0 (ne_lists hP hE)
  rw [e1, e2]
set_option maxHeartbeats 3200000 in
theorem rparse_ok (s : ByteArray) (op f : Int) (w : World) (hs : s.size ≤ 400000) (ho : TX.oo (TX.hd s.data.toList) = op) (h0 : ¬ op = 0) (hf : IM.fm op = f) (hf1 : 1 ≤ f ∧ f ≤ 11) :
    Calls Tryz.prog 56 #[.string s] w fun e w' => e = .returned (.tuple #[.agg #[.int .i64 (TX.pq s.data.toList).1, .int .i64 (TX.pq s.data.toList).2.1, .int .i64 (TX.pq s.data.toList).2.2.1, .int .i64 (TX.pq s.data.toList).2.2.2.1, .int .i64 (TX.pq s.data.toList).2.2.2.2], .int .i64 (TX.pe s.data.toList)]) ∧ Below w.heap.size w w' := by
  have HC := Lib.hid (fun W => head_any s W hs)
  have HO' : Hid (∀ W, Calls Tryz.prog 102 #[.string ⟨(TX.hd s.data.toList).toArray⟩] W fun e w' => e = .returned (.int .i64 op) ∧ Below W.heap.size W w') := by
    rw [← ho]; exact Lib.hid (fun W => rop_any ⟨(TX.hd s.data.toList).toArray⟩ W)
  have H2 := Lib.hid (fun W => rform_any op W)
  rw [hf] at H2
  have hn := os_len f
  have h0' : (op == 0) = false := by simpa using h0
  obtain ⟨X, hX⟩ : ∃ X, (⟨(TX.hd s.data.toList).toArray⟩ : ByteArray) = X := ⟨_, rfl⟩
  rw [hX] at HC HO'
  clear hX
  obtain ⟨F, hF⟩ : ∃ F, (⟨((TX.os f).map TX.lt).toArray⟩ : ByteArray) = F := ⟨_, rfl⟩
  have HF := Lib.hid hF
  have hsz : F.size = (TX.os f).length := by rw [← hF, lts_size]
  have HL := Lib.hid (lts_at hF)
  clear hF
  have HZ := Lib.hid hsz
  rw [← hsz] at hn
  clear hsz
  have HOo := Lib.hid ho
  have HQ0 := Lib.hid (show TX.rcand op s.data.toList = TX.rst s.data.toList (TX.os f) (TX.bq 0 s.data.toList) (min F.size (TX.bq 0 s.data.toList).length) by unfold TX.rcand; rw [hf, HZ.out])
  have HS := Lib.hid (fun W => starts_any s W hs)
  have hal := TX.bq_len 0 s.data.toList
  have HAl := Lib.hid (TX.bq_le 0 s.data.toList)
  rw [NM.len_eq, Nat.zero_add] at HAl
  rw [NM.len_eq] at hal
  obtain ⟨ats, hats⟩ : ∃ x, TX.bq 0 s.data.toList = x := ⟨_, rfl⟩
  rw [hats] at HQ0 HS hal HAl
  clear ho hf hats
  go_enter Tryz.func56, Tryz.ntmps56
  go_wp2_with fail
  refine (HC.out _).mono ?_; rintro e W0 ⟨rfl, rfl⟩
  go_wp2_with fail
  refine (HO'.out _).mono ?_; rintro e W ⟨rfl, hb⟩
  have HB := Lib.hid hb
  clear hb
  go_wp2_with (first
    | (go_at_call 61; refine (H2.out _).mono ?_; rintro e w2 ⟨rfl, rfl⟩)
    | (go_at_call 64; refine (fields_any f _ hf1).mono ?_; rw [HF.out]; rintro e w2 ⟨rfl, rfl⟩))
  refine (HS.out _).mono ?_; rintro e W2 ⟨v, rfl, hrow⟩
  rcases irow_open hrow with ⟨hz0, ao, cap, rfl⟩ | ⟨h, cap, rfl, hg1, hg2, hcs⟩
  · have Z1 := Lib.hid ((ZW.start0 (op := op) HB.out).on hrow.2)
    clear hrow HB
    have HQ1 := Lib.hid (show TX.rcand op s.data.toList = (0, 0, 0, 0) by rw [HQ0.out, hz0, Nat.min_zero]; rfl)
    obtain ⟨q, hq⟩ : ∃ q : Int × Int × Int × Int, (0, 0, 0, 0) = q := ⟨_, rfl⟩
    have HQ := Lib.hid (HQ1.out.trans hq)
    rw [hq] at Z1
    clear HQ0 HQ1 hq
    generalize W.heap.size = g at *
    by_cases hF0 : (0 : Int) < F.size
    · have hF1 : decide ((0 : Int) < F.size) = true := by simpa using hF0
      go_wp2_with fail
      refine wp_loop_rounds 1 ?_
      rw [rounds_succ]
      obtain ⟨P, hP⟩ : ∃ P, (⟨(TX.pr op q.1 q.2.1 q.2.2.1 q.2.2.2).toArray⟩ : ByteArray) = P := ⟨_, rfl⟩
      have HPr := Lib.hid (fun W => rprint_any op q.1 q.2.1 q.2.2.1 q.2.2.2 W)
      rw [hP] at HPr
      obtain ⟨⟨c0, c1, c2, c3, c4⟩, f0, f1, f2, f3, f4⟩ := Z1.out.2.1
      go_wp2_with fail
      refine (HPr.out _).mono ?_; rintro e w6 ⟨rfl, hb6⟩
      have Z6 := Lib.hid (Z1.out.on hb6)
      clear hb6 Z1 c0 c1 c2 c3 c4 f0 f1 f2 f3 f4
      obtain ⟨⟨c0, c1, c2, c3, c4⟩, f0, f1, f2, f3, f4⟩ := Z6.out.2.1
      obtain ⟨⟨k0, k1, k2, k3, k4⟩, l0, l1, l2, l3, l4⟩ := Z6.out.1
      have n1 := Z6.out.2.2.1.1
      have n2 : ¬ g = w.heap.size := fun e => n1 e.symm
      have B6 := Lib.hid Z6.out.2.2.2.2.2.2
      clear Z6
      by_cases hE : P.toList = s.toList
      · have hE' : (P.toList == s.toList) = true := by simpa using hE
        have HFn := Lib.hid (rpe_fin_yes HOo.out h0 HQ.out hP hE)
        clear hP
        go_wp2
        refine bodyPost_ret (v := .tuple #[.agg #[.int .i64 op, .int .i64 q.1, .int .i64 q.2.1, .int .i64 q.2.2.1, .int .i64 q.2.2.2], .int .i64 0]) (by simp [results, Tryz.results56, go_sem, k0, k1, k2, k3, k4]) rfl ⟨HFn.out, ?_⟩
        exact five_below B6.out (Nat.le_refl _) _ _ _ _ _
      · have hE' : (P.toList == s.toList) = false := by simpa using hE
        have HFn := Lib.hid (rpe_fin_no HOo.out h0 HQ.out hP hE)
        clear hP
        go_wp2
        refine bodyPost_ret (v := .tuple #[.agg #[.int .i64 0, .int .i64 0, .int .i64 0, .int .i64 0, .int .i64 0], .int .i64 2]) (by simp [results, Tryz.results56, go_sem, k0, k1, k2, k3, k4]) rfl ⟨HFn.out, ?_⟩
        exact five_below B6.out (Nat.le_refl _) _ _ _ _ _
    · have hF1 : decide ((0 : Int) < F.size) = false := by simpa using hF0
      go_wp2_with fail
      refine wp_loop_rounds 1 ?_
      rw [rounds_succ]
      obtain ⟨P, hP⟩ : ∃ P, (⟨(TX.pr op q.1 q.2.1 q.2.2.1 q.2.2.2).toArray⟩ : ByteArray) = P := ⟨_, rfl⟩
      have HPr := Lib.hid (fun W => rprint_any op q.1 q.2.1 q.2.2.1 q.2.2.2 W)
      rw [hP] at HPr
      obtain ⟨⟨c0, c1, c2, c3, c4⟩, f0, f1, f2, f3, f4⟩ := Z1.out.2.1
      go_wp2_with fail
      refine (HPr.out _).mono ?_; rintro e w6 ⟨rfl, hb6⟩
      have Z6 := Lib.hid (Z1.out.on hb6)
      clear hb6 Z1 c0 c1 c2 c3 c4 f0 f1 f2 f3 f4
      obtain ⟨⟨c0, c1, c2, c3, c4⟩, f0, f1, f2, f3, f4⟩ := Z6.out.2.1
      obtain ⟨⟨k0, k1, k2, k3, k4⟩, l0, l1, l2, l3, l4⟩ := Z6.out.1
      have n1 := Z6.out.2.2.1.1
      have n2 : ¬ g = w.heap.size := fun e => n1 e.symm
      have B6 := Lib.hid Z6.out.2.2.2.2.2.2
      clear Z6
      by_cases hE : P.toList = s.toList
      · have hE' : (P.toList == s.toList) = true := by simpa using hE
        have HFn := Lib.hid (rpe_fin_yes HOo.out h0 HQ.out hP hE)
        clear hP
        go_wp2
        refine bodyPost_ret (v := .tuple #[.agg #[.int .i64 op, .int .i64 q.1, .int .i64 q.2.1, .int .i64 q.2.2.1, .int .i64 q.2.2.2], .int .i64 0]) (by simp [results, Tryz.results56, go_sem, k0, k1, k2, k3, k4]) rfl ⟨HFn.out, ?_⟩
        exact five_below B6.out (Nat.le_refl _) _ _ _ _ _
      · have hE' : (P.toList == s.toList) = false := by simpa using hE
        have HFn := Lib.hid (rpe_fin_no HOo.out h0 HQ.out hP hE)
        clear hP
        go_wp2
        refine bodyPost_ret (v := .tuple #[.agg #[.int .i64 0, .int .i64 0, .int .i64 0, .int .i64 0, .int .i64 0], .int .i64 2]) (by simp [results, Tryz.results56, go_sem, k0, k1, k2, k3, k4]) rfl ⟨HFn.out, ?_⟩
        exact five_below B6.out (Nat.le_refl _) _ _ _ _ _
  · have Z1 := Lib.hid (ZW.start2 (cap := cap) HB.out hrow hg1 hg2 hcs rfl)
    clear hrow HB hg1 hg2 hcs
    generalize W.heap.size = g at *
    obtain ⟨L, hL⟩ : ∃ L, ats.length = L := ⟨_, rfl⟩
    have HLL := Lib.hid hL
    rw [hL] at HQ0 hal ⊢
    clear hL
    go_wp2_with fail
    go_loopw [7] (fun i wr => ∃ (k : Nat), k ≤ F.size ∧ k ≤ L ∧ i = .int .i64 k ∧ Hid (ZW w wr w.heap.size g h op (TX.rst s.data.toList (TX.os f) ats k) ats)) (fun i _ => F.size - (intOf i).toNat)
    case atStart => exact ⟨0, by omega, by omega, rfl, Z1⟩
    case round =>
      obtain ⟨k, hkF, hkL, rfl, hZ⟩ := hrel
      obtain ⟨q, hq⟩ : ∃ q, TX.rst s.data.toList (TX.os f) ats k = q := ⟨_, rfl⟩
      rw [hq] at hZ
      have HQk := Lib.hid hq
      by_cases hlt : (k : Int) < F.size
      · have hlt' : decide ((k : Int) < F.size) = true := by simpa using hlt
        have hk1 : k < F.size := by omega
        by_cases hlL : (k : Int) < L
        · have hlL' : decide ((k : Int) < L) = true := by simpa using hlL
          have hk2 : k < ats.length := by rw [HLL.out]; omega
          have ho := os_getD_le f k (by rw [← HZ.out]; exact hk1)
          have hc := HL.out k hk1
          have hx := hZ.out.2.2.2.2.2.1 k hk2
          obtain ⟨y, hyy⟩ : ∃ y, ats.getD k 4 = y := ⟨_, rfl⟩
          have hy : y ≤ 400000 := by
            have := HAl.out y (by rw [← hyy, List.getD_eq_getElem?_getD, List.getElem?_eq_getElem hk2]; exact List.getElem_mem hk2)
            omega
          rw [hyy] at hx
          obtain ⟨o, hoo⟩ : ∃ o, (TX.os f).getD k 4 = o := ⟨_, rfl⟩
          rw [hoo] at ho hc
          obtain ⟨⟨c0, c1, c2, c3, c4⟩, f0, f1, f2, f3, f4⟩ := hZ.out.2.1
          clear hq
          have ho4 : o = 0 ∨ o = 1 ∨ o = 2 ∨ o = 3 := by omega
          clear ho
          rcases ho4 with rfl | rfl | rfl | rfl
          · have hcc : (F[k].toNat : Int) = 100 := by rw [hc]; rfl
            have HNx := Lib.hid (show TX.rst s.data.toList (TX.os f) ats (k + 1) = TX.wth 0 (TX.rn s.data.toList (y + 1)) q from rst_next HQk.out hoo hyy hk2)
            have HNm := Lib.hid (fun W z (hz : z = ((y + 1 : Nat) : Int)) => rnumber_z s z (y + 1) W hz hs (by omega))
            obtain ⟨nn, hnn⟩ : ∃ x, TX.rn s.data.toList (y + 1) = x := ⟨_, rfl⟩
            rw [hnn] at HNm HNx
            clear hnn hc hoo hyy
            have Z6 := Lib.hid (hZ.out.set0 nn)
            go_wp2_with (go_at_call 106; refine (HNm.out _ _ (by omega)).mono ?_; rintro e w4 ⟨rfl, rfl⟩)
            go_roundw
            case rel => exact ⟨k + 1, by omega, by omega, by go_num, by rw [HNx.out]; exact Z6⟩
            case measure => simp [intOf]; omega
          · have hcc : (F[k].toNat : Int) = 97 := by rw [hc]; rfl
            have HNx := Lib.hid (show TX.rst s.data.toList (TX.os f) ats (k + 1) = TX.wth 1 (TX.rn s.data.toList (y + 1)) q from rst_next HQk.out hoo hyy hk2)
            have HNm := Lib.hid (fun W z (hz : z = ((y + 1 : Nat) : Int)) => rnumber_z s z (y + 1) W hz hs (by omega))
            obtain ⟨nn, hnn⟩ : ∃ x, TX.rn s.data.toList (y + 1) = x := ⟨_, rfl⟩
            rw [hnn] at HNm HNx
            clear hnn hc hoo hyy
            have Z6 := Lib.hid (hZ.out.set1 nn)
            go_wp2_with (go_at_call 106; refine (HNm.out _ _ (by omega)).mono ?_; rintro e w4 ⟨rfl, rfl⟩)
            go_roundw
            case rel => exact ⟨k + 1, by omega, by omega, by go_num, by rw [HNx.out]; exact Z6⟩
            case measure => simp [intOf]; omega
          · have hcc : (F[k].toNat : Int) = 98 := by rw [hc]; rfl
            have HNx := Lib.hid (show TX.rst s.data.toList (TX.os f) ats (k + 1) = TX.wth 2 (TX.rn s.data.toList (y + 1)) q from rst_next HQk.out hoo hyy hk2)
            have HNm := Lib.hid (fun W z (hz : z = ((y + 1 : Nat) : Int)) => rnumber_z s z (y + 1) W hz hs (by omega))
            obtain ⟨nn, hnn⟩ : ∃ x, TX.rn s.data.toList (y + 1) = x := ⟨_, rfl⟩
            rw [hnn] at HNm HNx
            clear hnn hc hoo hyy
            have Z6 := Lib.hid (hZ.out.set2 nn)
            go_wp2_with (go_at_call 106; refine (HNm.out _ _ (by omega)).mono ?_; rintro e w4 ⟨rfl, rfl⟩)
            go_roundw
            case rel => exact ⟨k + 1, by omega, by omega, by go_num, by rw [HNx.out]; exact Z6⟩
            case measure => simp [intOf]; omega
          · have hcc : (F[k].toNat : Int) = 105 := by rw [hc]; rfl
            have HNx := Lib.hid (show TX.rst s.data.toList (TX.os f) ats (k + 1) = TX.wth 3 (TX.rn s.data.toList (y)) q from rst_next HQk.out hoo hyy hk2)
            have HNm := Lib.hid (fun W z (hz : z = ((y : Nat) : Int)) => rnumber_z s z (y) W hz hs (by omega))
            obtain ⟨nn, hnn⟩ : ∃ x, TX.rn s.data.toList (y) = x := ⟨_, rfl⟩
            rw [hnn] at HNm HNx
            clear hnn hc hoo hyy
            have Z6 := Lib.hid (hZ.out.set3 nn)
            go_wp2_with (go_at_call 106; refine (HNm.out _ _ (by omega)).mono ?_; rintro e w4 ⟨rfl, rfl⟩)
            go_roundw
            case rel => exact ⟨k + 1, by omega, by omega, by go_num, by rw [HNx.out]; exact Z6⟩
            case measure => simp [intOf]; omega
        · have hlL' : decide ((k : Int) < L) = false := by simpa using hlL
          have HQ := Lib.hid (show TX.rcand op s.data.toList = q by rw [HQ0.out, ← hq, show min F.size L = k by omega])
          clear hq
          obtain ⟨P, hP⟩ : ∃ P, (⟨(TX.pr op q.1 q.2.1 q.2.2.1 q.2.2.2).toArray⟩ : ByteArray) = P := ⟨_, rfl⟩
          have HPr := Lib.hid (fun W => rprint_any op q.1 q.2.1 q.2.2.1 q.2.2.2 W)
          rw [hP] at HPr
          obtain ⟨⟨c0, c1, c2, c3, c4⟩, f0, f1, f2, f3, f4⟩ := hZ.out.2.1
          go_wp2_with fail
          refine (HPr.out _).mono ?_; rintro e w6 ⟨rfl, hb6⟩
          have Z6 := Lib.hid (hZ.out.on hb6)
          clear hb6 hZ c0 c1 c2 c3 c4 f0 f1 f2 f3 f4
          obtain ⟨⟨c0, c1, c2, c3, c4⟩, f0, f1, f2, f3, f4⟩ := Z6.out.2.1
          obtain ⟨⟨k0, k1, k2, k3, k4⟩, l0, l1, l2, l3, l4⟩ := Z6.out.1
          have n1 := Z6.out.2.2.1.1
          have n2 : ¬ g = w.heap.size := fun e => n1 e.symm
          have B6 := Lib.hid Z6.out.2.2.2.2.2.2
          clear Z6
          by_cases hE : P.toList = s.toList
          · have hE' : (P.toList == s.toList) = true := by simpa using hE
            have HFn := Lib.hid (rpe_fin_yes HOo.out h0 HQ.out hP hE)
            clear hP
            go_wp2
            refine bodyPost_ret (v := .tuple #[.agg #[.int .i64 op, .int .i64 q.1, .int .i64 q.2.1, .int .i64 q.2.2.1, .int .i64 q.2.2.2], .int .i64 0]) (by simp [results, Tryz.results56, go_sem, k0, k1, k2, k3, k4]) rfl ⟨HFn.out, ?_⟩
            exact five_below B6.out (Nat.le_refl _) _ _ _ _ _
          · have hE' : (P.toList == s.toList) = false := by simpa using hE
            have HFn := Lib.hid (rpe_fin_no HOo.out h0 HQ.out hP hE)
            clear hP
            go_wp2
            refine bodyPost_ret (v := .tuple #[.agg #[.int .i64 0, .int .i64 0, .int .i64 0, .int .i64 0, .int .i64 0], .int .i64 2]) (by simp [results, Tryz.results56, go_sem, k0, k1, k2, k3, k4]) rfl ⟨HFn.out, ?_⟩
            exact five_below B6.out (Nat.le_refl _) _ _ _ _ _
      · have hlt' : decide ((k : Int) < F.size) = false := by simpa using hlt
        have HQ := Lib.hid (show TX.rcand op s.data.toList = q by rw [HQ0.out, ← hq, show min F.size L = k by omega])
        clear hq
        obtain ⟨P, hP⟩ : ∃ P, (⟨(TX.pr op q.1 q.2.1 q.2.2.1 q.2.2.2).toArray⟩ : ByteArray) = P := ⟨_, rfl⟩
        have HPr := Lib.hid (fun W => rprint_any op q.1 q.2.1 q.2.2.1 q.2.2.2 W)
        rw [hP] at HPr
        obtain ⟨⟨c0, c1, c2, c3, c4⟩, f0, f1, f2, f3, f4⟩ := hZ.out.2.1
        go_wp2_with fail
        refine (HPr.out _).mono ?_; rintro e w6 ⟨rfl, hb6⟩
        have Z6 := Lib.hid (hZ.out.on hb6)
        clear hb6 hZ c0 c1 c2 c3 c4 f0 f1 f2 f3 f4
        obtain ⟨⟨c0, c1, c2, c3, c4⟩, f0, f1, f2, f3, f4⟩ := Z6.out.2.1
        obtain ⟨⟨k0, k1, k2, k3, k4⟩, l0, l1, l2, l3, l4⟩ := Z6.out.1
        have n1 := Z6.out.2.2.1.1
        have n2 : ¬ g = w.heap.size := fun e => n1 e.symm
        have B6 := Lib.hid Z6.out.2.2.2.2.2.2
        clear Z6
        by_cases hE : P.toList = s.toList
        · have hE' : (P.toList == s.toList) = true := by simpa using hE
          have HFn := Lib.hid (rpe_fin_yes HOo.out h0 HQ.out hP hE)
          clear hP
          go_wp2
          refine bodyPost_ret (v := .tuple #[.agg #[.int .i64 op, .int .i64 q.1, .int .i64 q.2.1, .int .i64 q.2.2.1, .int .i64 q.2.2.2], .int .i64 0]) (by simp [results, Tryz.results56, go_sem, k0, k1, k2, k3, k4]) rfl ⟨HFn.out, ?_⟩
          exact five_below B6.out (Nat.le_refl _) _ _ _ _ _
        · have hE' : (P.toList == s.toList) = false := by simpa using hE
          have HFn := Lib.hid (rpe_fin_no HOo.out h0 HQ.out hP hE)
          clear hP
          go_wp2
          refine bodyPost_ret (v := .tuple #[.agg #[.int .i64 0, .int .i64 0, .int .i64 0, .int .i64 0, .int .i64 0], .int .i64 2]) (by simp [results, Tryz.results56, go_sem, k0, k1, k2, k3, k4]) rfl ⟨HFn.out, ?_⟩
          exact five_below B6.out (Nat.le_refl _) _ _ _ _ _
set_option maxHeartbeats 1600000 in
theorem rparse_op (s : ByteArray) (w : World) (hs : s.size ≤ 400000) (ho : TX.oo (TX.hd s.data.toList) = 0) :
    Calls Tryz.prog 56 #[.string s] w fun e w' => e = .returned (.tuple #[.agg #[.int .i64 (TX.pq s.data.toList).1, .int .i64 (TX.pq s.data.toList).2.1, .int .i64 (TX.pq s.data.toList).2.2.1, .int .i64 (TX.pq s.data.toList).2.2.2.1, .int .i64 (TX.pq s.data.toList).2.2.2.2], .int .i64 (TX.pe s.data.toList)]) ∧ Below w.heap.size w w' := by
  have HC := Lib.hid (fun W => head_any s W hs)
  have HO' : Hid (∀ W, Calls Tryz.prog 102 #[.string ⟨(TX.hd s.data.toList).toArray⟩] W fun e w' => e = .returned (.int .i64 0) ∧ Below W.heap.size W w') := by
    rw [← ho]; exact Lib.hid (fun W => rop_any ⟨(TX.hd s.data.toList).toArray⟩ W)
  have HF := Lib.hid (pe_fin_nine ho)
  clear ho
  obtain ⟨X, hX⟩ : ∃ X, (⟨(TX.hd s.data.toList).toArray⟩ : ByteArray) = X := ⟨_, rfl⟩
  rw [hX] at HC HO'
  clear hX
  go_enter Tryz.func56, Tryz.ntmps56
  go_wp2_with fail
  refine (HC.out _).mono ?_; rintro e W0 ⟨rfl, rfl⟩
  go_wp2_with fail
  refine (HO'.out _).mono ?_; rintro e W ⟨rfl, hb⟩
  have Z1 := Lib.hid (ZW.start0 (op := 0) hb)
  clear hb
  obtain ⟨⟨k0, k1, k2, k3, k4⟩, l0, l1, l2, l3, l4⟩ := Z1.out.1
  have n1 := Z1.out.2.2.1.1
  have n2 : ¬ W.heap.size = w.heap.size := fun e => n1 e.symm
  have B6 := Lib.hid Z1.out.2.2.2.2.2.2
  clear Z1
  go_wp2
  refine bodyPost_ret (v := .tuple #[.agg #[.int .i64 0, .int .i64 0, .int .i64 0, .int .i64 0, .int .i64 0], .int .i64 9]) (by simp [results, Tryz.results56, go_sem, k0, k1, k2, k3, k4]) rfl ⟨HF.out, ?_⟩
  exact five_below B6.out (Nat.le_refl _) _ _ _ _ _
theorem rparse_any (s : ByteArray) (w : World) (hs : s.size ≤ 400000) : Calls Tryz.prog 56 #[.string s] w fun e w' => e = .returned (.tuple #[.agg #[.int .i64 (TX.pq s.data.toList).1, .int .i64 (TX.pq s.data.toList).2.1, .int .i64 (TX.pq s.data.toList).2.2.1, .int .i64 (TX.pq s.data.toList).2.2.2.1, .int .i64 (TX.pq s.data.toList).2.2.2.2], .int .i64 (TX.pe s.data.toList)]) ∧ Below w.heap.size w w' := by
  by_cases h0 : TX.oo (TX.hd s.data.toList) = 0
  · exact rparse_op s w hs h0
  · have hb := TX.oo_bd (TX.hd s.data.toList)
    have h1 : 1 ≤ TX.oo (TX.hd s.data.toList) ∧ TX.oo (TX.hd s.data.toList) ≤ 63 := by omega
    have hf0 := IM.fm_some _ h1
    have hf1 := IM.fm_bd (TX.oo (TX.hd s.data.toList))
    exact rparse_ok s _ _ w hs rfl h0 rfl (by omega)
end Go.Proofs.YtcnmnkgnaknpdaaGreatDoor.S07
/-! RfP -/
namespace Go.Proofs.YtcnmnkgnaknpdaaGreatDoor
open Go.RowKit Go.Maps S02 S06 S07
/-- Is a slice's block a new one? -/
def Nw (w : World) (v : Value) : Prop := ∀ g o n c, v = .slice (some ⟨g, o, none⟩) n c → w.heap.size ≤ g
theorem Nw.at {w : World} {g o n c : Nat} (h : w.heap.size ≤ g) : Nw w (.slice (some ⟨g, o, none⟩) n c) := fun g' o' n' c' e => by
  injection e with e _ _
  injection e with e
  injection e with e _
  omega
/-- A slice of bytes and an error; the bytes are told where there is none. -/
def BtPost (w : World) (E : Int) (B : List UInt8) (e : Ending) (w' : World) : Prop := ∃ v, e = .returned (.tuple #[v, .int .i64 E]) ∧ (∃ a n c, v = .slice a n c) ∧ Below w.heap.size w w' ∧ (E = 0 → ByR w' v B ∧ Nw w v)
theorem BtPost.bad {w w' : World} {E : Int} {B : List UInt8} {a : Option Addr} {n c : Nat} (hE : ¬ E = 0) (hb : Below w.heap.size w w') : BtPost w E B (.returned (.tuple #[.slice a n c, .int .i64 E])) w' := ⟨_, rfl, ⟨_, _, _, rfl⟩, hb, fun h => absurd h hE⟩
theorem ByR.made {w : World} {S : Nat} (n : Nat) (hn : n ≤ 1000000) (hS : w.heap.size = S) : ByR (w.alloc (.cells (madeCells #[.int .u8 0] n) 5)) (.slice (some ⟨S, 0, none⟩) n n) (List.replicate n 0) := by
  subst hS
  by_cases h : n = 0
  · subst h; exact .inl ⟨rfl, _, _, rfl⟩
  · refine .inr ⟨by simp [h], w.heap.size, 0, n, by simp, by simp, by unfold maxLen; omega, fun j hj => ?_⟩
    rw [List.length_replicate] at hj
    rw [Nat.zero_add, List.getD_eq_getElem?_getD, List.getElem?_replicate, if_pos hj]
    exact cell_of (heap_alloc_new w _) ((made_at _ n).2 j hj)
theorem ByR.four {w : World} (u : Nat) : ByR (w.alloc (.cells #[.int .u8 (AS.byt u 0).toNat, .int .u8 (AS.byt u 1).toNat, .int .u8 (AS.byt u 2).toNat, .int .u8 (AS.byt u 3).toNat] 5)) (.slice (some ⟨w.heap.size, 0, none⟩) 4 4) (AS.le u 4) := by
  have e : AS.le u 4 = [AS.byt u 0, AS.byt u 1, AS.byt u 2, AS.byt u 3] := rfl
  rw [e]
  refine .inr ⟨by simp, w.heap.size, 0, 4, rfl, by simp, by unfold maxLen; omega, fun j hj => ?_⟩
  rw [Nat.zero_add]
  simp only [List.length_cons, List.length_nil] at hj
  refine cell_of (heap_alloc_new w _) ?_
  obtain rfl | rfl | rfl | rfl : j = 0 ∨ j = 1 ∨ j = 2 ∨ j = 3 := by omega
  all_goals rfl
theorem rbytes_zero {w : World} {nv wv : Value} (ln pos sz : Nat) (hs : sz ≤ 16384) :
    Calls Tryz.prog 26 #[nv, .agg #[.int .i64 4, .int .i64 ln, .int .i64 pos, .int .i64 sz, wv]] w (BtPost w 0 (List.replicate sz 0)) := by
  have HM := fun W => run_make_row' (P := Tryz.prog) 47 5 (.int .u8 0) 1 Tryz.underlying47 byte_info rfl .i64 .i64 sz (by omega) (by omega) W
  have HB := Lib.hid (fun W S => ByR.made (w := W) (S := S) sz (by omega))
  obtain ⟨cs, hcs⟩ : ∃ cs, madeCells #[.int .u8 0] sz = cs := ⟨_, rfl⟩
  rw [hcs] at HB
  simp only [hcs] at HM
  clear hcs
  have hs' : (sz : Int) ≤ 16384 := by omega
  clear hs
  go_enter Tryz.func26, Tryz.ntmps26
  go_wp2
  go_ret2
  exact ⟨.slice (some ⟨w.heap.size + 1 + 1, 0, none⟩) sz sz, rfl, ⟨_, _, _, rfl⟩, ((below_two w _ _).alloc (below_two w _ _).size _), fun _ => ⟨HB.out _ _ (by simp), Nw.at (by omega)⟩⟩
end Go.Proofs.YtcnmnkgnaknpdaaGreatDoor
/-! RfX -/
namespace Go.Proofs.YtcnmnkgnaknpdaaGreatDoor
open Go.RowKit Go.Maps S02 S06 S07
set_option maxHeartbeats 1600000 in
theorem rbytes_ins {w : World} {nv wv : Value} {ns : List (List UInt8 × Nat)} {d : List UInt8} {r : List (List UInt8)} (ln pos sz : Nat) (hn : NmR w nv ns) (hnl : ns.length ≤ 1000000) (hu : ∀ p ∈ ns, p.2 < 4294967296) (ha : pos ≤ 16384) (hv : TxR w wv (d :: r)) (hb : (d :: r).length + AS.tot (d :: r) ≤ 70000) :
    Calls Tryz.prog 26 #[nv, .agg #[.int .i64 1, .int .i64 ln, .int .i64 pos, .int .i64 sz, wv]] w (BtPost w (AS.enE ns pos d r) (AS.le (AS.enN ns pos d r).toNat 4)) := by
  have HTx := Lib.hid (fun (W : World) (h : Below w.heap.size w W) => rtext_any pos (hn.below h) hnl hu ha (hv.on h) hb)
  have HTL := Lib.hid (AS.txt_len hu pos (TX.oo d) d r hb)
  obtain ⟨T, hT⟩ : ∃ T, AS.txt d (AS.rsL ns pos (TX.oo d) r) = T := ⟨_, rfl⟩
  obtain ⟨E1, hE1⟩ : ∃ E1, (if TX.oo d = 0 then 9 else AS.rsE ns pos (TX.oo d) r) = E1 := ⟨_, rfl⟩
  obtain ⟨⟨i0, i1, i2, i3, i4⟩, hq⟩ : ∃ q, TX.pq T = q := ⟨_, rfl⟩
  obtain ⟨PE, hPE⟩ : ∃ PE, TX.pe T = PE := ⟨_, rfl⟩
  have HPs := Lib.hid (fun (S : ByteArray) (W : World) (h : S.data.toList = T) => show Calls Tryz.prog 56 #[.string S] W fun e w' => e = .returned (.tuple #[.agg #[.int .i64 i0, .int .i64 i1, .int .i64 i2, .int .i64 i3, .int .i64 i4], .int .i64 PE]) ∧ Below W.heap.size W w' from by
    have h2 := S07.rparse_any S W (by have := HTL.out; rw [hT, ← h, NM.len_eq] at this; exact this)
    rw [h, hq, hPE] at h2
    exact h2)
  have HEn := Lib.hid (fun W => S06.renc_any i0 i1 i2 i3 i4 W)
  have eE : AS.enE ns pos d r = if E1 = 0 then (if PE = 0 then IM.rc i0 i1 i2 i3 i4 else PE) else E1 := by
    unfold AS.enE
    rw [hT, hq, hPE, ← hE1]
    by_cases h0 : TX.oo d = 0
    · rw [if_pos h0, if_pos h0, if_neg (by decide)]
    · rw [if_neg h0, if_neg h0]
  have eN : AS.enN ns pos d r = IM.ec i0 i1 i2 i3 i4 := by unfold AS.enN; rw [hT, hq]
  obtain ⟨b0, b1⟩ := enN_bd ns pos d r
  rw [hT, hE1] at HTx
  rw [eE]
  rw [eN] at b0 b1 ⊢
  obtain ⟨C, hC⟩ : ∃ C, IM.ec i0 i1 i2 i3 i4 = C := ⟨_, rfl⟩
  obtain ⟨RC, hRC⟩ : ∃ RC, IM.rc i0 i1 i2 i3 i4 = RC := ⟨_, rfl⟩
  rw [hC] at HEn b0 b1 ⊢
  rw [hRC] at HEn ⊢
  obtain ⟨u, hu2⟩ : ∃ u : Nat, C = u := ⟨C.toNat, by omega⟩
  subst hu2
  have hu3 : u < 4294967296 := by omega
  rw [show ((u : Int).toNat) = u from rfl]
  have HFr := Lib.hid (fun W => rfour_any u W hu3)
  have HB2 := Lib.hid (below_two w (.cells #[.int .i64 1, .int .i64 ln, .int .i64 pos, .int .i64 sz, wv] 74) (.cells #[] 5))
  clear hn hnl hu ha hv hb HTL hT hE1 hq hPE eE eN b0 b1 hC hRC hu3
  by_cases h1 : E1 = 0
  · subst h1
    rw [if_pos rfl]
    by_cases h2 : PE = 0
    · subst h2
      rw [if_pos rfl]
      by_cases h3 : RC = 0
      · subst h3
        go_enter Tryz.func26, Tryz.ntmps26
        go_wp2_with (first
          | (go_at_call 55; refine (HTx.out _ HB2.out).mono ?_; rintro e w1 ⟨S, rfl, hb1, hS⟩; have HS := Lib.hid (hS rfl); have HB3 := Lib.hid (HB2.out.trans (hb1.mono HB2.out.size)); clear hS hb1)
          | (go_at_call 56; refine (HPs.out _ _ HS.out).mono ?_; rintro e w2 ⟨rfl, hb2⟩; have HB4 := Lib.hid ((HB3.out.trans (hb2.mono HB3.out.size)).alloc (HB3.out.trans (hb2.mono HB3.out.size)).size (.cells #[.int .i64 i0, .int .i64 i1, .int .i64 i2, .int .i64 i3, .int .i64 i4] 45)); clear hb2)
          | (go_at_call 57; refine (HEn.out _).mono ?_; rintro e w3 ⟨rfl, hb3⟩; have HB5 := Lib.hid (HB4.out.trans (hb3.mono HB4.out.size)); clear hb3)
          | (go_at_call 58; refine (HFr.out _).mono ?_; rintro e w4 ⟨rfl, rfl⟩))
        go_ret2
        exact ⟨_, rfl, ⟨_, _, _, rfl⟩, HB5.out.alloc HB5.out.size _, fun _ => ⟨ByR.four u, Nw.at HB5.out.size⟩⟩
      · have HE := Lib.hid h3
        have e1 : (RC == 0) = false := by simp [h3]
        have e2 : (RC != 0) = true := by simp [h3]
        clear h3
        go_enter Tryz.func26, Tryz.ntmps26
        go_wp2_with (first
          | (go_at_call 55; refine (HTx.out _ HB2.out).mono ?_; rintro e w1 ⟨S, rfl, hb1, hS⟩; have HS := Lib.hid (hS rfl); have HB3 := Lib.hid (HB2.out.trans (hb1.mono HB2.out.size)); clear hS hb1)
          | (go_at_call 56; refine (HPs.out _ _ HS.out).mono ?_; rintro e w2 ⟨rfl, hb2⟩; have HB4 := Lib.hid ((HB3.out.trans (hb2.mono HB3.out.size)).alloc (HB3.out.trans (hb2.mono HB3.out.size)).size (.cells #[.int .i64 i0, .int .i64 i1, .int .i64 i2, .int .i64 i3, .int .i64 i4] 45)); clear hb2)
          | (go_at_call 57; refine (HEn.out _).mono ?_; rintro e w3 ⟨rfl, hb3⟩; have HB5 := Lib.hid (HB4.out.trans (hb3.mono HB4.out.size)); clear hb3)
          | (go_at_call 58; refine (HFr.out _).mono ?_; rintro e w4 ⟨rfl, rfl⟩))
        go_ret2
        exact BtPost.bad HE.out (HB5.out.alloc HB5.out.size _)
    · rw [if_neg h2]
      have HE := Lib.hid h2
      have e1 : (PE == 0) = false := by simp [h2]
      have e2 : (PE != 0) = true := by simp [h2]
      clear h2
      go_enter Tryz.func26, Tryz.ntmps26
      go_wp2_with (first
        | (go_at_call 55; refine (HTx.out _ HB2.out).mono ?_; rintro e w1 ⟨S, rfl, hb1, hS⟩; have HS := Lib.hid (hS rfl); have HB3 := Lib.hid (HB2.out.trans (hb1.mono HB2.out.size)); clear hS hb1)
        | (go_at_call 56; refine (HPs.out _ _ HS.out).mono ?_; rintro e w2 ⟨rfl, hb2⟩; have HB4 := Lib.hid ((HB3.out.trans (hb2.mono HB3.out.size)).alloc (HB3.out.trans (hb2.mono HB3.out.size)).size (.cells #[.int .i64 i0, .int .i64 i1, .int .i64 i2, .int .i64 i3, .int .i64 i4] 45)); clear hb2))
      go_ret2
      exact BtPost.bad HE.out HB4.out
  · rw [if_neg h1]
    have HE := Lib.hid h1
    have e1 : (E1 == 0) = false := by simp [h1]
    have e2 : (E1 != 0) = true := by simp [h1]
    clear h1
    go_enter Tryz.func26, Tryz.ntmps26
    go_wp2_with (go_at_call 55; refine (HTx.out _ HB2.out).mono ?_; rintro e w1 ⟨S, rfl, hb1, hS⟩; have HB3 := Lib.hid (HB2.out.trans (hb1.mono HB2.out.size)); clear hS hb1)
    go_ret2
    exact BtPost.bad HE.out HB3.out
end Go.Proofs.YtcnmnkgnaknpdaaGreatDoor
/-! RfQ -/
namespace Go.Proofs.YtcnmnkgnaknpdaaGreatDoor
open Go.RowKit Go.Maps S02 S06 S07
namespace AS
theorem vals_ok {ns : List (List UInt8 × Nat)} {sz : Nat} {lo hi : Int} {s : List UInt8} {r : List (List UInt8)} (h : vaE ns s lo hi = 0) : vals ns sz lo hi (s :: r) = ((vals ns sz lo hi r).1, le (vaN ns s lo hi).toNat sz ++ (vals ns sz lo hi r).2) := by rw [vals, if_pos h]
theorem vals_bad {ns : List (List UInt8 × Nat)} {sz : Nat} {lo hi : Int} {s : List UInt8} {r : List (List UInt8)} (h : ¬ vaE ns s lo hi = 0) : vals ns sz lo hi (s :: r) = (vaE ns s lo hi, []) := by rw [vals, if_neg h]
/-- What stands before the values from a place on. -/
def Dn (ns : List (List UInt8 × Nat)) (sz : Nat) (lo hi : Int) (l : List (List UInt8)) (k : Nat) (B : List UInt8) : Prop := vals ns sz lo hi l = ((vals ns sz lo hi (l.drop k)).1, B ++ (vals ns sz lo hi (l.drop k)).2) ∧ B.length = sz * k
theorem Dn.start (ns : List (List UInt8 × Nat)) (sz : Nat) (lo hi : Int) (l : List (List UInt8)) : Dn ns sz lo hi l 0 [] := ⟨rfl, by simp⟩
theorem Dn.next {ns : List (List UInt8 × Nat)} {sz : Nat} {lo hi : Int} {l : List (List UInt8)} {k : Nat} {B : List UInt8} (h : Dn ns sz lo hi l k B) (hk : k < l.length) (h0 : vaE ns (l.getD k []) lo hi = 0) : Dn ns sz lo hi l (k + 1) (B ++ le (vaN ns (l.getD k []) lo hi).toNat sz) := by
  obtain ⟨h1, h2⟩ := h
  have e : l.drop k = l.getD k [] :: l.drop (k + 1) := by
    rw [List.getD_eq_getElem?_getD, List.getElem?_eq_getElem hk]
    exact List.drop_eq_getElem_cons hk
  refine ⟨?_, by rw [List.length_append, h2, show (le (vaN ns (l.getD k []) lo hi).toNat sz).length = sz by simp [le], Nat.mul_add]; omega⟩
  rw [h1, e, vals_ok h0, List.append_assoc]
theorem Dn.bad {ns : List (List UInt8 × Nat)} {sz : Nat} {lo hi : Int} {l : List (List UInt8)} {k : Nat} {B : List UInt8} (h : Dn ns sz lo hi l k B) (hk : k < l.length) (h0 : ¬ vaE ns (l.getD k []) lo hi = 0) : (vals ns sz lo hi l).1 = vaE ns (l.getD k []) lo hi := by
  obtain ⟨h1, h2⟩ := h
  have e : l.drop k = l.getD k [] :: l.drop (k + 1) := by
    rw [List.getD_eq_getElem?_getD, List.getElem?_eq_getElem hk]
    exact List.drop_eq_getElem_cons hk
  rw [h1, e, vals_bad h0]
theorem Dn.all {ns : List (List UInt8 × Nat)} {sz : Nat} {lo hi : Int} {l : List (List UInt8)} {B : List UInt8} (h : Dn ns sz lo hi l l.length B) : vals ns sz lo hi l = (0, B) := by
  rw [h.1, List.drop_length]
  simp [vals]
theorem le_1 (u : Nat) : le u 1 = [byt u 0] := rfl
theorem le_4 (u : Nat) : le u 4 = [byt u 0, byt u 1, byt u 2, byt u 3] := rfl
end AS
/-- While the values are read: the item's own block, and the bytes so far. -/
structure VL (w wr : World) (kd : Int) (ln pos sz : Nat) (wv v : Value) (B : List UInt8) : Prop where
  box : wr.heap[w.heap.size]? = some (.cells #[.int .i64 kd, .int .i64 ln, .int .i64 pos, .int .i64 sz, wv] 74 (0, 0))
  own : wr.ownsRow (w.heap.size + 1) 5 1 v B.length (byC B)
  old : Below w.heap.size w wr
  big : w.heap.size + 1 ≤ wr.heap.size
theorem VL.start (w : World) (kd : Int) (ln pos sz : Nat) (wv : Value) : VL w ((w.alloc (.cells #[.int .i64 kd, .int .i64 ln, .int .i64 pos, .int .i64 sz, wv] 74)).alloc (.cells #[] 5)) kd ln pos sz wv (.slice (some ⟨w.heap.size + 1, 0, none⟩) 0 0) [] := by
  refine ⟨(Below.heap_alloc _ _ _ (by simp)).trans (heap_alloc_new w _), ?_, below_two w _ _, by simp⟩
  have h : ((w.alloc (.cells #[.int .i64 kd, .int .i64 ln, .int .i64 pos, .int .i64 sz, wv] 74)).alloc (.cells #[] 5)).ownsRow (w.heap.size + 1) 5 1 (.slice (some ⟨(w.alloc (.cells #[.int .i64 kd, .int .i64 ln, .int .i64 pos, .int .i64 sz, wv] 74)).heap.size, 0, none⟩) 0 0) 0 [] := World.ownsRow_lit _ #[] 0 (by simp) (by unfold maxLen; omega) rfl
  rw [show (w.alloc (.cells #[.int .i64 kd, .int .i64 ln, .int .i64 pos, .int .i64 sz, wv] 74)).heap.size = w.heap.size + 1 by simp] at h
  exact h
theorem VL.below {w wr w2 : World} {kd : Int} {ln pos sz : Nat} {wv v : Value} {B : List UInt8} (h : VL w wr kd ln pos sz wv v B) (hb : Below wr.heap.size wr w2) : VL w w2 kd ln pos sz wv v B :=
  ⟨(hb.block _ (lt_of_heap h.box)).trans h.box, own_keep h.own fun k hk => hb.block k (own_lt h.own hk).2.1, h.old.trans (hb.mono h.old.size), Nat.le_trans h.big hb.size⟩
theorem VL.more {w wr w1 : World} {kd : Int} {ln pos sz n : Nat} {wv v v' : Value} {B N : List UInt8} {news : List Value} {o : Obj} (h : VL w wr kd ln pos sz wv v B) (hN : news = byC N) (hn : n = N.length) (hg : (wr.alloc o).grownBy w1 v.ownBlock) (ho : w1.ownsRow (w.heap.size + 1) 5 1 v' (B.length + n) (byC B ++ news)) : VL w w1 kd ln pos sz wv v' (B ++ N) := by
  subst hN hn
  have h1 : Below w.heap.size w (wr.alloc o) := h.old.alloc h.old.size o
  have hb : w.heap.size + 1 ≤ (wr.alloc o).heap.size := by have := h.big; simp; omega
  refine ⟨?_, ?_, h1.grown hg h1.size fun k hk => by have := (own_lt h.own hk).1; omega, Nat.le_trans hb hg.size⟩
  · rw [hg.block _ (by omega) fun e => by have := (own_lt h.own e.symm).1; omega, Below.heap_alloc _ _ _ (lt_of_heap h.box)]
    exact h.box
  · rw [List.length_append, show byC (B ++ N) = byC B ++ byC N by simp [byC]]
    exact ho
theorem VL.c {w wr : World} {kd : Int} {ln pos sz : Nat} {wv v : Value} {B : List UInt8} (h : VL w wr kd ln pos sz wv v B) : wr.cell? ⟨w.heap.size, 0, none⟩ = some (.int .i64 kd) ∧ wr.cell? ⟨w.heap.size, 4, none⟩ = some wv := ⟨cell_of h.box rfl, cell_of h.box rfl⟩
theorem VL.end {w wr : World} {kd : Int} {ln pos sz : Nat} {wv v : Value} {B : List UInt8} (h : VL w wr kd ln pos sz wv v B) : BtPost w 0 B (.returned (.tuple #[v, .int .i64 0])) wr := ⟨v, rfl, (by obtain ⟨a, c, e⟩ := own_form h.own; exact ⟨a, _, c, e⟩), h.old, fun _ => ⟨ByR.of_own h.own, fun g o n c e => by have := (own_lt h.own (k := g) (by rw [e]; rfl)).1; omega⟩⟩
theorem VL.bad {w wr : World} {kd : Int} {ln pos sz : Nat} {wv v : Value} {B B' : List UInt8} {E : Int} (h : VL w wr kd ln pos sz wv v B) (hE : ¬ E = 0) : BtPost w E B' (.returned (.tuple #[v, .int .i64 E])) wr := ⟨v, rfl, (by obtain ⟨a, c, e⟩ := own_form h.own; exact ⟨a, _, c, e⟩), h.old, fun h => absurd h hE⟩
theorem four_at (w : World) (a b c d : Value) (t : TypeId) : ∀ j u, [a, b, c, d][j]? = some u → (w.alloc (.cells #[a, b, c, d] t)).cell? ((⟨w.heap.size, 0, none⟩ : Addr).add j) = some u := by
  intro j u hj
  match j, hj with
  | 0, hj => simp at hj; subst hj; exact cell_of (heap_alloc_new w _) rfl
  | 1, hj => simp at hj; subst hj; exact cell_of (heap_alloc_new w _) rfl
  | 2, hj => simp at hj; subst hj; exact cell_of (heap_alloc_new w _) rfl
  | 3, hj => simp at hj; subst hj; exact cell_of (heap_alloc_new w _) rfl
set_option maxRecDepth 20000 in
set_option maxHeartbeats 4000000 in
theorem rbytes_byte {w : World} {nv wv : Value} {ns : List (List UInt8 × Nat)} {l : List (List UInt8)} (ln pos sz : Nat) (hn : NmR w nv ns) (hnl : ns.length ≤ 1000000) (hu : ∀ p ∈ ns, p.2 < 4294967296) (hv : TxR w wv l) (hl : l.length ≤ 100000) (hz : ∀ y ∈ l, y.length ≤ 1000000) :
    Calls Tryz.prog 26 #[nv, .agg #[.int .i64 3, .int .i64 ln, .int .i64 pos, .int .i64 sz, wv]] w (BtPost w (AS.vals ns 1 (-128) 255 l).1 (AS.vals ns 1 (-128) 255 l).2) := by
  obtain ⟨i0, HI⟩ := info_parts byte_info
  have HI := Lib.hid HI
  obtain ⟨n, hn'⟩ : ∃ n, l.length = n := ⟨_, rfl⟩
  obtain ⟨va, vc, rfl⟩ := txr_len hv
  rw [hn'] at hl hv ⊢
  have hl' : (n : Int) ≤ 100000 := by omega
  clear hl
  have HN := Lib.hid hn'
  have HV := Lib.hid hv
  have HVal := Lib.hid (fun (S : ByteArray) (W : World) (hb : Below w.heap.size w W) (hs : S.size ≤ 1000000) => rvalue_any S (hn.below hb) hnl hu hs)
  have HVB := Lib.hid (fun s => AS.va_byte ns hu s)
  have HZ := Lib.hid hz
  have HS := Lib.hid (VL.start w 3 ln pos sz (.slice va n vc))
  obtain ⟨R, hR⟩ : ∃ R, AS.vals ns 1 (-128) 255 l = R := ⟨_, rfl⟩
  have HD0 := Lib.hid (AS.Dn.start ns 1 (-128) 255 l)
  have HRR := Lib.hid hR
  rw [hR]
  clear hn' hv hz hn hnl hu hR
  go_enter Tryz.func26, Tryz.ntmps26
  go_wp2
  go_loopw [6, 11] (fun v i wr => ∃ (k : Nat) (B : List UInt8), k ≤ n ∧ i = .int .i64 k ∧ Hid (VL w wr 3 ln pos sz (.slice va n vc) v B) ∧ Hid (AS.Dn ns 1 (-128) 255 l k B)) (fun _ i _ => n - (intOf i).toNat)
  case atStart => exact ⟨0, [], by omega, rfl, HS, HD0⟩
  case round =>
    obtain ⟨k, B, hk, rfl, hR, hD⟩ := hrel
    clear HS HD0
    obtain ⟨c0, c4⟩ := hR.out.c
    by_cases hlt : (k : Int) < n
    · have hkl : k < l.length := by rw [HN.out]; omega
      have HKL := Lib.hid hkl
      have hne : l ≠ [] := by intro e; rw [e] at hkl; simp at hkl
      obtain ⟨g, o, c, e⟩ := txr_form HV.out hne
      injection e with e1 e2 e3
      subst e1 e3
      obtain ⟨S, hS, hS1, hS2⟩ := bt_of (l.getD k [])
      have g0 := HV.out.cellOf hne k hkl
      have gr : wr.cell? ⟨g, o + k, none⟩ = some (.string S) := by rw [cell_below hR.out.old g0, ← hS]; rfl
      have HSz := Lib.hid (show S.size ≤ 1000000 by rw [hS2, List.getD_eq_getElem?_getD, List.getElem?_eq_getElem hkl]; exact HZ.out _ (List.getElem_mem hkl))
      have HC := Lib.hid (HVal.out S wr hR.out.old HSz.out)
      obtain ⟨v1, v2⟩ := HVB.out (l.getD k [])
      rw [hS1] at HC
      have hbl := hD.out.2
      rw [Nat.one_mul] at hbl
      obtain ⟨E, hE⟩ : ∃ E, AS.rvE ns (l.getD k []) = E := ⟨_, rfl⟩
      obtain ⟨z, hzv⟩ : ∃ z, AS.rvN ns (l.getD k []) = z := ⟨_, rfl⟩
      rw [hE, hzv] at HC v1
      rw [hzv] at v2
      clear hS hS1 hS2 g0 hkl hne e2 hE hzv HSz
      by_cases h0 : E = 0
      · subst h0
        rw [if_pos rfl] at v1
        by_cases hr : z < -128 ∨ 255 < z
        · rw [if_pos hr] at v1
          have HE := Lib.hid (show R.1 = 3 by rw [← HRR.out, hD.out.bad HKL.out (by rw [v1]; decide), v1])
          rw [HE.out]
          clear v1 v2
          by_cases hr1 : z < -128
          · have hr1' : decide (z < -128) = true := by simpa using hr1
            clear hr
            go_wp2_with (go_at_call 59; refine HC.out.mono ?_; rintro e w2 ⟨⟨z', b, rfl, hz'⟩, rfl⟩; obtain rfl := hz' rfl)
            go_ret2
            exact hR.out.bad (by decide)
          · have hr1' : decide (z < -128) = false := by simpa using hr1
            have hr2' : decide (255 < z) = true := by simp; omega
            clear hr hr1
            go_wp2_with (go_at_call 59; refine HC.out.mono ?_; rintro e w2 ⟨⟨z', b, rfl, hz'⟩, rfl⟩; obtain rfl := hz' rfl)
            go_ret2
            exact hR.out.bad (by decide)
        · rw [if_neg hr] at v1
          have v3 := v2 v1
          obtain ⟨u, hu⟩ : ∃ u : Nat, z % 4294967296 = u := ⟨(z % 4294967296).toNat, by omega⟩
          have HNx := Lib.hid (hD.out.next HKL.out v1)
          rw [v3, hu, Int.toNat_natCast, AS.le_1] at HNx
          have hb0 : ((AS.byt u 0).toNat : Int) = z % 256 := by rw [byt_int]; simp; omega
          have hr1' : decide (z < -128) = false := by simp; omega
          have hr2' : decide (255 < z) = false := by simp; omega
          clear v1 v2 v3 hr hu
          have hq : (B.length : Int) ≤ 100000 := by omega
          have hn1 : Value.int .u8 (z % 256) = .int .u8 (AS.byt u 0).toNat := by rw [hb0]
          have HN1 := Lib.hid hn1
          clear hb0 hn1 hbl
          go_wp2_with (first
            | (go_at_call 59; refine HC.out.mono ?_; rintro e w2 ⟨⟨z', b, rfl, hz'⟩, rfl⟩; obtain rfl := hz' rfl)
            | (at_builtin; refine wpList_append_lies _ rfl _ _ 47 rfl (w.heap.size + 1) 5 i0 (.int .u8 0) 1 1 Tryz.underlying47 HI.out.1 HI.out.2.1 HI.out.2.2.1 HI.out.2.2.2 rfl (by decide) _ B.length (byC B) rfl (hR.out.own.alloc _) ⟨_, 0, none⟩ 1 1 [.int .u8 _] rfl rfl (cell_one_new _ _ _) (by simp [Value.oneCell']) (by decide) (by unfold maxLen; omega) (by omega) (by have := hR.out.big; simp; omega) _ rfl ?_))
          intro g' cap' w3 ho3 hg3 hv3 hl3
          have HY := Lib.hid (hR.out.more (N := [AS.byt u 0]) (by rw [HN1.out]; rfl) rfl hg3 ho3)
          clear ho3 hg3 hv3 hl3 hq
          go_wp2
          go_roundw
          case rel => exact ⟨k + 1, _, by omega, by go_num, HY, HNx⟩
          case measure => simp [intOf]; omega
      · rw [if_neg h0] at v1
        have HE := Lib.hid (show R.1 = E by rw [← HRR.out, hD.out.bad HKL.out (by rw [v1]; exact h0), v1])
        rw [HE.out]
        have HH := Lib.hid h0
        have e1 : (E == 0) = false := by simp [h0]
        have e2 : (E != 0) = true := by simp [h0]
        clear v1 v2 h0
        go_wp2_with (go_at_call 59; refine HC.out.mono ?_; rintro e w2 ⟨⟨z', b, rfl, hz'⟩, rfl⟩; clear hz')
        go_ret2
        exact hR.out.bad HH.out
    · obtain rfl : k = n := by omega
      have HE := Lib.hid (show R = (0, B) by rw [← HRR.out]; exact AS.Dn.all (by rw [HN.out]; exact hD.out))
      clear hlt
      go_wp2
      go_ret2
      rw [HE.out]
      exact hR.out.end
set_option maxRecDepth 20000 in
set_option maxHeartbeats 4000000 in
theorem rbytes_word {w : World} {nv wv : Value} {ns : List (List UInt8 × Nat)} {l : List (List UInt8)} (ln pos sz : Nat) (hn : NmR w nv ns) (hnl : ns.length ≤ 1000000) (hu : ∀ p ∈ ns, p.2 < 4294967296) (hv : TxR w wv l) (hl : l.length ≤ 100000) (hz : ∀ y ∈ l, y.length ≤ 1000000) :
    Calls Tryz.prog 26 #[nv, .agg #[.int .i64 2, .int .i64 ln, .int .i64 pos, .int .i64 sz, wv]] w (BtPost w (AS.vals ns 4 (-2147483648) 4294967295 l).1 (AS.vals ns 4 (-2147483648) 4294967295 l).2) := by
  obtain ⟨i0, HI⟩ := info_parts byte_info
  have HI := Lib.hid HI
  obtain ⟨n, hn'⟩ : ∃ n, l.length = n := ⟨_, rfl⟩
  obtain ⟨va, vc, rfl⟩ := txr_len hv
  rw [hn'] at hl hv ⊢
  have hl' : (n : Int) ≤ 100000 := by omega
  clear hl
  have HN := Lib.hid hn'
  have HV := Lib.hid hv
  have HVal := Lib.hid (fun (S : ByteArray) (W : World) (hb : Below w.heap.size w W) (hs : S.size ≤ 1000000) => rvalue_any S (hn.below hb) hnl hu hs)
  have HVB := Lib.hid (fun s => AS.va_word ns hu s)
  have HZ := Lib.hid hz
  have HS := Lib.hid (VL.start w 2 ln pos sz (.slice va n vc))
  obtain ⟨R, hR⟩ : ∃ R, AS.vals ns 4 (-2147483648) 4294967295 l = R := ⟨_, rfl⟩
  have HD0 := Lib.hid (AS.Dn.start ns 4 (-2147483648) 4294967295 l)
  have HRR := Lib.hid hR
  rw [hR]
  clear hn' hv hz hn hnl hu hR
  go_enter Tryz.func26, Tryz.ntmps26
  go_wp2
  go_loopw [6, 11] (fun v i wr => ∃ (k : Nat) (B : List UInt8), k ≤ n ∧ i = .int .i64 k ∧ Hid (VL w wr 2 ln pos sz (.slice va n vc) v B) ∧ Hid (AS.Dn ns 4 (-2147483648) 4294967295 l k B)) (fun _ i _ => n - (intOf i).toNat)
  case atStart => exact ⟨0, [], by omega, rfl, HS, HD0⟩
  case round =>
    obtain ⟨k, B, hk, rfl, hR, hD⟩ := hrel
    clear HS HD0
    obtain ⟨c0, c4⟩ := hR.out.c
    by_cases hlt : (k : Int) < n
    · have hkl : k < l.length := by rw [HN.out]; omega
      have HKL := Lib.hid hkl
      have hne : l ≠ [] := by intro e; rw [e] at hkl; simp at hkl
      obtain ⟨g, o, c, e⟩ := txr_form HV.out hne
      injection e with e1 e2 e3
      subst e1 e3
      obtain ⟨S, hS, hS1, hS2⟩ := bt_of (l.getD k [])
      have g0 := HV.out.cellOf hne k hkl
      have gr : wr.cell? ⟨g, o + k, none⟩ = some (.string S) := by rw [cell_below hR.out.old g0, ← hS]; rfl
      have HSz := Lib.hid (show S.size ≤ 1000000 by rw [hS2, List.getD_eq_getElem?_getD, List.getElem?_eq_getElem hkl]; exact HZ.out _ (List.getElem_mem hkl))
      have HC := Lib.hid (HVal.out S wr hR.out.old HSz.out)
      obtain ⟨v1, v2⟩ := HVB.out (l.getD k [])
      rw [hS1] at HC
      have hbl := hD.out.2
      obtain ⟨E, hE⟩ : ∃ E, AS.rvE ns (l.getD k []) = E := ⟨_, rfl⟩
      obtain ⟨z, hzv⟩ : ∃ z, AS.rvN ns (l.getD k []) = z := ⟨_, rfl⟩
      rw [hE, hzv] at HC v2
      rw [hE] at v1
      clear hS hS1 hS2 g0 hkl hne e2 hE hzv HSz
      by_cases h0 : E = 0
      · subst h0
        have v3 := v2 rfl
        obtain ⟨u, hu⟩ : ∃ u : Nat, z % 4294967296 = u := ⟨(z % 4294967296).toNat, by omega⟩
        have HNx := Lib.hid (hD.out.next HKL.out v1)
        rw [v3, hu, Int.toNat_natCast, AS.le_4] at HNx
        have HFr := Lib.hid (fun W => show Calls Tryz.prog 58 #[.int .u32 (z % 4294967296)] W _ from hu ▸ rfour_any u W (by omega))
        clear v1 v2 v3 hu
        have hq : (B.length : Int) ≤ 400000 := by omega
        clear hbl
        go_upto_region 21 with (first
          | (go_at_call 59; refine HC.out.mono ?_; rintro e w2 ⟨⟨z', b, rfl, hz'⟩, rfl⟩; obtain rfl := hz' rfl)
          | (go_at_call 58; refine (HFr.out _).mono ?_; rintro e w3 ⟨rfl, rfl⟩))
        obtain ⟨W4, hW4⟩ : ∃ W4, wr.alloc (.cells #[.int .u8 (AS.byt u 0).toNat, .int .u8 (AS.byt u 1).toNat, .int .u8 (AS.byt u 2).toNat, .int .u8 (AS.byt u 3).toNat] 5) = W4 := ⟨_, rfl⟩
        have HR4 := Lib.hid (show VL w W4 2 ln pos sz (.slice (some ⟨g, o, none⟩) n vc) _ B from hW4 ▸ hR.out.below ((Below.refl _ wr).alloc (Nat.le_refl _) _))
        have hB4 : W4.heap[wr.heap.size]? = some (.cells #[.int .u8 (AS.byt u 0).toNat, .int .u8 (AS.byt u 1).toNat, .int .u8 (AS.byt u 2).toNat, .int .u8 (AS.byt u 3).toNat] 5 (0, 0)) := hW4 ▸ heap_alloc_new wr _
        have f0 := cell_of (o := 0) hB4 rfl
        have f1 := cell_of (o := 1) hB4 rfl
        have f2 := cell_of (o := 2) hB4 rfl
        have f3 := cell_of (o := 3) hB4 rfl
        rw [hW4]
        clear hW4 hB4 gr c0 c4
        go_region_law (refine step_append_lies _ rfl (.tmp 84) (.tmp 97) 47 rfl (w.heap.size + 1) 5 i0 (.int .u8 0) 1 1 Tryz.underlying47 HI.out.1 HI.out.2.1 HI.out.2.2.1 HI.out.2.2.2 rfl (by decide) _ B.length (byC B) (by simp [Act.eval]) (HR4.out.own.alloc _).drew ⟨W4.heap.size, 0, none⟩ 4 4 [.int .u8 (AS.byt u 0).toNat, .int .u8 (AS.byt u 1).toNat, .int .u8 (AS.byt u 2).toNat, .int .u8 (AS.byt u 3).toNat] (by simp [Act.eval]) rfl (four_at W4 _ _ _ _ 5) (by simp [Value.oneCell']) (by decide) (by unfold maxLen; omega) (by omega) (by have := HR4.out.big; simp; omega) (W4.heap.size + 1) (by simp) ?_; intro g' cap' w3 ho3 hg3 hv3 hl3; have HY := Lib.hid (HR4.out.more (N := [AS.byt u 0, AS.byt u 1, AS.byt u 2, AS.byt u 3]) rfl rfl ⟨hg3.os, hg3.tape, hg3.output, hg3.size, hg3.block⟩ ho3); clear ho3 hg3 hv3 hl3)
        all_goals
          go_wp2
          go_roundw
          case rel => exact ⟨k + 1, _, by omega, by go_num, HY, HNx⟩
          case measure => simp [intOf]; omega
      · have HE := Lib.hid (show R.1 = E by rw [← HRR.out, hD.out.bad HKL.out (by rw [v1]; exact h0), v1])
        rw [HE.out]
        have HH := Lib.hid h0
        have e1 : (E == 0) = false := by simp [h0]
        have e2 : (E != 0) = true := by simp [h0]
        clear v1 v2 h0
        go_wp2_with (go_at_call 59; refine HC.out.mono ?_; rintro e w2 ⟨⟨z', b, rfl, hz'⟩, rfl⟩; clear hz')
        go_ret2
        exact hR.out.bad HH.out
    · obtain rfl : k = n := by omega
      have HE := Lib.hid (show R = (0, B) by rw [← HRR.out]; exact AS.Dn.all (by rw [HN.out]; exact hD.out))
      clear hlt
      go_wp2
      go_ret2
      rw [HE.out]
      exact hR.out.end
end Go.Proofs.YtcnmnkgnaknpdaaGreatDoor
