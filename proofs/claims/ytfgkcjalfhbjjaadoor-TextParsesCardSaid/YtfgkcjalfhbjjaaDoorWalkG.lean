/-
  What the reference's Parse answers at every text of at most 200 bytes; it changes no memory that was there.
-/
import Derived.Test.YtfgkcjalfhbjjaaDoorWalkE
import Derived.Test.YtfgkcjalfhbjjaaDoorWalkF
namespace Go.Proofs.YtfgkcjalfhbjjaaDoor
open Go.RowKit S02 S06
theorem rnumber_z (s : ByteArray) (z : Int) (p : Nat) (w : World) (hz : z = p) (hs : s.size ≤ 200) (hpp : p ≤ 300) :
    Calls Tryd.prog 36 #[.string s, .int .i64 z] w fun e w' => e = .returned (.int .i64 (TX.rn s.data.toList p)) ∧ w = w' := by
  subst hz
  exact rnumber_any s p w hs hpp
theorem ZW.set0 {w wr : World} {r g h : Nat} {op : Int} {q : Int × Int × Int × Int} {l : List Nat} (hz : ZW w wr r g h op q l) (n : Int) : ZW w (wr.setCell ⟨g, 1, none⟩ (.int .i64 n)) r g h op (TX.wth 0 n q) l := by
  obtain ⟨hR, hG, hne, ⟨h1, h2, h3⟩, hge, hc, hB⟩ := hz
  obtain ⟨⟨c0, c1, c2, c3, c4⟩, f0, f1, f2, f3, f4⟩ := hR
  obtain ⟨⟨d0, d1, d2, d3, d4⟩, e0, e1, e2, e3, e4⟩ := hG
  have n1 := hne.1
  have n2 := hne.2
  refine ⟨⟨⟨?_, ?_, ?_, ?_, ?_⟩, ?_, ?_, ?_, ?_, ?_⟩, ⟨⟨?_, ?_, ?_, ?_, ?_⟩, ?_, ?_, ?_, ?_, ?_⟩, hne, ⟨?_, ?_, ?_⟩, hge, fun j hj => ?_, hB.setCell hge.2 _⟩
  all_goals first
    | (simp [go_sem, TX.wth, c0, c1, c2, c3, c4, f0, f1, f2, f3, f4, d0, d1, d2, d3, d4, e0, e1, e2, e3, e4]; done)
    | (simp [World.setCell]; assumption)
    | (have := hc j hj; simp [go_sem]; simpa using this)
theorem ZW.set1 {w wr : World} {r g h : Nat} {op : Int} {q : Int × Int × Int × Int} {l : List Nat} (hz : ZW w wr r g h op q l) (n : Int) : ZW w (wr.setCell ⟨g, 2, none⟩ (.int .i64 n)) r g h op (TX.wth 1 n q) l := by
  obtain ⟨hR, hG, hne, ⟨h1, h2, h3⟩, hge, hc, hB⟩ := hz
  obtain ⟨⟨c0, c1, c2, c3, c4⟩, f0, f1, f2, f3, f4⟩ := hR
  obtain ⟨⟨d0, d1, d2, d3, d4⟩, e0, e1, e2, e3, e4⟩ := hG
  have n1 := hne.1
  have n2 := hne.2
  refine ⟨⟨⟨?_, ?_, ?_, ?_, ?_⟩, ?_, ?_, ?_, ?_, ?_⟩, ⟨⟨?_, ?_, ?_, ?_, ?_⟩, ?_, ?_, ?_, ?_, ?_⟩, hne, ⟨?_, ?_, ?_⟩, hge, fun j hj => ?_, hB.setCell hge.2 _⟩
  all_goals first
    | (simp [go_sem, TX.wth, c0, c1, c2, c3, c4, f0, f1, f2, f3, f4, d0, d1, d2, d3, d4, e0, e1, e2, e3, e4]; done)
    | (simp [World.setCell]; assumption)
    | (have := hc j hj; simp [go_sem]; simpa using this)
theorem ZW.set2 {w wr : World} {r g h : Nat} {op : Int} {q : Int × Int × Int × Int} {l : List Nat} (hz : ZW w wr r g h op q l) (n : Int) : ZW w (wr.setCell ⟨g, 3, none⟩ (.int .i64 n)) r g h op (TX.wth 2 n q) l := by
  obtain ⟨hR, hG, hne, ⟨h1, h2, h3⟩, hge, hc, hB⟩ := hz
  obtain ⟨⟨c0, c1, c2, c3, c4⟩, f0, f1, f2, f3, f4⟩ := hR
  obtain ⟨⟨d0, d1, d2, d3, d4⟩, e0, e1, e2, e3, e4⟩ := hG
  have n1 := hne.1
  have n2 := hne.2
  refine ⟨⟨⟨?_, ?_, ?_, ?_, ?_⟩, ?_, ?_, ?_, ?_, ?_⟩, ⟨⟨?_, ?_, ?_, ?_, ?_⟩, ?_, ?_, ?_, ?_, ?_⟩, hne, ⟨?_, ?_, ?_⟩, hge, fun j hj => ?_, hB.setCell hge.2 _⟩
  all_goals first
    | (simp [go_sem, TX.wth, c0, c1, c2, c3, c4, f0, f1, f2, f3, f4, d0, d1, d2, d3, d4, e0, e1, e2, e3, e4]; done)
    | (simp [World.setCell]; assumption)
    | (have := hc j hj; simp [go_sem]; simpa using this)
theorem ZW.set3 {w wr : World} {r g h : Nat} {op : Int} {q : Int × Int × Int × Int} {l : List Nat} (hz : ZW w wr r g h op q l) (n : Int) : ZW w (wr.setCell ⟨g, 4, none⟩ (.int .i64 n)) r g h op (TX.wth 3 n q) l := by
  obtain ⟨hR, hG, hne, ⟨h1, h2, h3⟩, hge, hc, hB⟩ := hz
  obtain ⟨⟨c0, c1, c2, c3, c4⟩, f0, f1, f2, f3, f4⟩ := hR
  obtain ⟨⟨d0, d1, d2, d3, d4⟩, e0, e1, e2, e3, e4⟩ := hG
  have n1 := hne.1
  have n2 := hne.2
  refine ⟨⟨⟨?_, ?_, ?_, ?_, ?_⟩, ?_, ?_, ?_, ?_, ?_⟩, ⟨⟨?_, ?_, ?_, ?_, ?_⟩, ?_, ?_, ?_, ?_, ?_⟩, hne, ⟨?_, ?_, ?_⟩, hge, fun j hj => ?_, hB.setCell hge.2 _⟩
  all_goals first
    | (simp [go_sem, TX.wth, c0, c1, c2, c3, c4, f0, f1, f2, f3, f4, d0, d1, d2, d3, d4, e0, e1, e2, e3, e4]; done)
    | (simp [World.setCell]; assumption)
    | (have := hc j hj; simp [go_sem]; simpa using this)
theorem ZW.start2 {w W W2 : World} {op : Int} {v : Value} {ats : List Nat} {g cap : Nat} (hb : Below (w.alloc (.cells #[.int .i64 0, .int .i64 0, .int .i64 0, .int .i64 0, .int .i64 0] 27)).heap.size (w.alloc (.cells #[.int .i64 0, .int .i64 0, .int .i64 0, .int .i64 0, .int .i64 0] 27)) W)
    (hr : IRow (W.alloc (.cells #[.int .i64 op, .int .i64 0, .int .i64 0, .int .i64 0, .int .i64 0] 27)) W2 v ats) (hg : (W.alloc (.cells #[.int .i64 op, .int .i64 0, .int .i64 0, .int .i64 0, .int .i64 0] 27)).heap.size ≤ g) (hg2 : g < W2.heap.size) (hc : ∀ i, i < ats.length → W2.cell? ⟨g, i, none⟩ = some (.int .i64 (ats.getD i 0 : Nat))) (_ : cap = cap) :
    ZW w W2 w.heap.size W.heap.size g op (0, 0, 0, 0) ats := by
  obtain ⟨z1, z2, z3, ⟨z4, z5, _⟩, z7, _, z9⟩ := (ZW.start0 (op := op) hb).on hr.2
  refine ⟨z1, z2, ⟨z3.1, by simp at hg; omega⟩, ⟨z4, z5, hg2⟩, z7, fun j hj => ?_, z9⟩
  rw [hc j hj]
  simp [List.getD_eq_getElem?_getD, hj]
theorem rst_next {l : List UInt8} {o p : List Nat} {k x y : Nat} {q : Int × Int × Int × Int} (hq : TX.rst l o p k = q) (ho : o.getD k 4 = x) (hp : p.getD k 4 = y) (hk : k < p.length) :
    TX.rst l o p (k + 1) = TX.wth x (TX.rn l (y + if x = 3 then 0 else 1)) q := by
  have : p.getD k 0 = y := by
    rw [List.getD_eq_getElem?_getD, List.getElem?_eq_getElem hk] at hp ⊢
    exact hp
  rw [TX.rst, hq, ho, this]
theorem rpe_fin_yes {s P : ByteArray} {op : Int} {q : Int × Int × Int × Int} (ho : TX.oo (TX.hd s.data.toList) = op) (h0 : ¬ op = 0) (hq : TX.rcand op s.data.toList = q) (hP : (⟨(TX.pr op q.1 q.2.1 q.2.2.1 q.2.2.2).toArray⟩ : ByteArray) = P) (hE : P.toList = s.toList) :
    Ending.returned (.tuple #[.agg #[.int .i64 op, .int .i64 q.1, .int .i64 q.2.1, .int .i64 q.2.2.1, .int .i64 q.2.2.2], .int .i64 0]) = .returned (.tuple #[.agg #[.int .i64 (TX.pq s.data.toList).1, .int .i64 (TX.pq s.data.toList).2.1, .int .i64 (TX.pq s.data.toList).2.2.1, .int .i64 (TX.pq s.data.toList).2.2.2.1, .int .i64 (TX.pq s.data.toList).2.2.2.2], .int .i64 (TX.pe s.data.toList)]) := by
  subst ho
  subst hq
  obtain ⟨e1, e2⟩ := TX.pe_ref_yes h0 (eq_lists hP hE)
  rw [e1, e2]
theorem rpe_fin_no {s P : ByteArray} {op : Int} {q : Int × Int × Int × Int} (ho : TX.oo (TX.hd s.data.toList) = op) (h0 : ¬ op = 0) (hq : TX.rcand op s.data.toList = q) (hP : (⟨(TX.pr op q.1 q.2.1 q.2.2.1 q.2.2.2).toArray⟩ : ByteArray) = P) (hE : ¬ P.toList = s.toList) :
    Ending.returned (.tuple #[.agg #[.int .i64 0, .int .i64 0, .int .i64 0, .int .i64 0, .int .i64 0], .int .i64 2]) = .returned (.tuple #[.agg #[.int .i64 (TX.pq s.data.toList).1, .int .i64 (TX.pq s.data.toList).2.1, .int .i64 (TX.pq s.data.toList).2.2.1, .int .i64 (TX.pq s.data.toList).2.2.2.1, .int .i64 (TX.pq s.data.toList).2.2.2.2], .int .i64 (TX.pe s.data.toList)]) := by
  subst ho
  subst hq
  obtain ⟨e1, e2⟩ := TX.pe_ref_no h0 (ne_lists hP hE)
  rw [e1, e2]
set_option maxHeartbeats 3200000 in
theorem rparse_ok (s : ByteArray) (op f : Int) (w : World) (hs : s.size ≤ 200) (ho : TX.oo (TX.hd s.data.toList) = op) (h0 : ¬ op = 0) (hf : IM.fm op = f) (hf1 : 1 ≤ f ∧ f ≤ 11) :
    Calls Tryd.prog 17 #[.string s] w fun e w' => e = .returned (.tuple #[.agg #[.int .i64 (TX.pq s.data.toList).1, .int .i64 (TX.pq s.data.toList).2.1, .int .i64 (TX.pq s.data.toList).2.2.1, .int .i64 (TX.pq s.data.toList).2.2.2.1, .int .i64 (TX.pq s.data.toList).2.2.2.2], .int .i64 (TX.pe s.data.toList)]) ∧ Below w.heap.size w w' := by
  have HC := Lib.hid (fun W => head_any s W hs)
  have HO' : Hid (∀ W, Calls Tryd.prog 12 #[.string ⟨(TX.hd s.data.toList).toArray⟩] W fun e w' => e = .returned (.int .i64 op) ∧ Below W.heap.size W w') := by
    rw [← ho]; exact Lib.hid (fun W => rop_any ⟨(TX.hd s.data.toList).toArray⟩ W)
  have H2 := Lib.hid (fun W => rform_any op W)
  rw [hf] at H2
  have hn := os_len f
  have h0' : (op == 0) = false := by simpa using h0
  obtain ⟨X, hX⟩ : ∃ X, (⟨(TX.hd s.data.toList).toArray⟩ : ByteArray) = X := ⟨_, rfl⟩
  rw [hX] at HC HO'
  clear hX
  obtain ⟨F, hF⟩ : ∃ F, (⟨((TX.os f).map TX.lt).toArray⟩ : ByteArray) = F := ⟨_, rfl⟩
  have HF := Lib.hid hF
  have hsz : F.size = (TX.os f).length := by rw [← hF, lts_size]
  have HL := Lib.hid (lts_at hF)
  clear hF
  have HZ := Lib.hid hsz
  rw [← hsz] at hn
  clear hsz
  have HOo := Lib.hid ho
  have HQ0 := Lib.hid (show TX.rcand op s.data.toList = TX.rst s.data.toList (TX.os f) (TX.bq 0 s.data.toList) (min F.size (TX.bq 0 s.data.toList).length) by unfold TX.rcand; rw [hf, HZ.out])
  have HS := Lib.hid (fun W => starts_any s W hs)
  have hal := TX.bq_len 0 s.data.toList
  have HAl := Lib.hid (TX.bq_le 0 s.data.toList)
  rw [NM.len_eq, Nat.zero_add] at HAl
  rw [NM.len_eq] at hal
  obtain ⟨ats, hats⟩ : ∃ x, TX.bq 0 s.data.toList = x := ⟨_, rfl⟩
  rw [hats] at HQ0 HS hal HAl
  clear ho hf hats
  go_enter Tryd.func17, Tryd.ntmps17
  go_wp2_with fail
  refine (HC.out _).mono ?_; rintro e W0 ⟨rfl, rfl⟩
  go_wp2_with fail
  refine (HO'.out _).mono ?_; rintro e W ⟨rfl, hb⟩
  have HB := Lib.hid hb
  clear hb
  go_wp2_with (first
    | (go_at_call 26; refine (H2.out _).mono ?_; rintro e w2 ⟨rfl, rfl⟩)
    | (go_at_call 25; refine (fields_any f _ hf1).mono ?_; rw [HF.out]; rintro e w2 ⟨rfl, rfl⟩))
  refine (HS.out _).mono ?_; rintro e W2 ⟨v, rfl, hrow⟩
  rcases irow_open hrow with ⟨hz0, ao, cap, rfl⟩ | ⟨h, cap, rfl, hg1, hg2, hcs⟩
  · have Z1 := Lib.hid ((ZW.start0 (op := op) HB.out).on hrow.2)
    clear hrow HB
    have HQ1 := Lib.hid (show TX.rcand op s.data.toList = (0, 0, 0, 0) by rw [HQ0.out, hz0, Nat.min_zero]; rfl)
    obtain ⟨q, hq⟩ : ∃ q : Int × Int × Int × Int, (0, 0, 0, 0) = q := ⟨_, rfl⟩
    have HQ := Lib.hid (HQ1.out.trans hq)
    rw [hq] at Z1
    clear HQ0 HQ1 hq
    generalize W.heap.size = g at *
    by_cases hF0 : (0 : Int) < F.size
    · have hF1 : decide ((0 : Int) < F.size) = true := by simpa using hF0
      go_wp2_with fail
      refine wp_loop_rounds 1 ?_
      rw [rounds_succ]
      obtain ⟨P, hP⟩ : ∃ P, (⟨(TX.pr op q.1 q.2.1 q.2.2.1 q.2.2.2).toArray⟩ : ByteArray) = P := ⟨_, rfl⟩
      have HPr := Lib.hid (fun W => rprint_any op q.1 q.2.1 q.2.2.1 q.2.2.2 W)
      rw [hP] at HPr
      obtain ⟨⟨c0, c1, c2, c3, c4⟩, f0, f1, f2, f3, f4⟩ := Z1.out.2.1
      go_wp2_with fail
      refine (HPr.out _).mono ?_; rintro e w6 ⟨rfl, hb6⟩
      have Z6 := Lib.hid (Z1.out.on hb6)
      clear hb6 Z1 c0 c1 c2 c3 c4 f0 f1 f2 f3 f4
      obtain ⟨⟨c0, c1, c2, c3, c4⟩, f0, f1, f2, f3, f4⟩ := Z6.out.2.1
      obtain ⟨⟨k0, k1, k2, k3, k4⟩, l0, l1, l2, l3, l4⟩ := Z6.out.1
      have n1 := Z6.out.2.2.1.1
      have n2 : ¬ g = w.heap.size := fun e => n1 e.symm
      have B6 := Lib.hid Z6.out.2.2.2.2.2.2
      clear Z6
      by_cases hE : P.toList = s.toList
      · have hE' : (P.toList == s.toList) = true := by simpa using hE
        have HFn := Lib.hid (rpe_fin_yes HOo.out h0 HQ.out hP hE)
        clear hP
        go_wp2
        refine bodyPost_ret (v := .tuple #[.agg #[.int .i64 op, .int .i64 q.1, .int .i64 q.2.1, .int .i64 q.2.2.1, .int .i64 q.2.2.2], .int .i64 0]) (by simp [results, Tryd.results17, go_sem, k0, k1, k2, k3, k4]) rfl ⟨HFn.out, ?_⟩
        exact five_below B6.out (Nat.le_refl _) _ _ _ _ _
      · have hE' : (P.toList == s.toList) = false := by simpa using hE
        have HFn := Lib.hid (rpe_fin_no HOo.out h0 HQ.out hP hE)
        clear hP
        go_wp2
        refine bodyPost_ret (v := .tuple #[.agg #[.int .i64 0, .int .i64 0, .int .i64 0, .int .i64 0, .int .i64 0], .int .i64 2]) (by simp [results, Tryd.results17, go_sem, k0, k1, k2, k3, k4]) rfl ⟨HFn.out, ?_⟩
        exact five_below B6.out (Nat.le_refl _) _ _ _ _ _
    · have hF1 : decide ((0 : Int) < F.size) = false := by simpa using hF0
      go_wp2_with fail
      refine wp_loop_rounds 1 ?_
      rw [rounds_succ]
      obtain ⟨P, hP⟩ : ∃ P, (⟨(TX.pr op q.1 q.2.1 q.2.2.1 q.2.2.2).toArray⟩ : ByteArray) = P := ⟨_, rfl⟩
      have HPr := Lib.hid (fun W => rprint_any op q.1 q.2.1 q.2.2.1 q.2.2.2 W)
      rw [hP] at HPr
      obtain ⟨⟨c0, c1, c2, c3, c4⟩, f0, f1, f2, f3, f4⟩ := Z1.out.2.1
      go_wp2_with fail
      refine (HPr.out _).mono ?_; rintro e w6 ⟨rfl, hb6⟩
      have Z6 := Lib.hid (Z1.out.on hb6)
      clear hb6 Z1 c0 c1 c2 c3 c4 f0 f1 f2 f3 f4
      obtain ⟨⟨c0, c1, c2, c3, c4⟩, f0, f1, f2, f3, f4⟩ := Z6.out.2.1
      obtain ⟨⟨k0, k1, k2, k3, k4⟩, l0, l1, l2, l3, l4⟩ := Z6.out.1
      have n1 := Z6.out.2.2.1.1
      have n2 : ¬ g = w.heap.size := fun e => n1 e.symm
      have B6 := Lib.hid Z6.out.2.2.2.2.2.2
      clear Z6
      by_cases hE : P.toList = s.toList
      · have hE' : (P.toList == s.toList) = true := by simpa using hE
        have HFn := Lib.hid (rpe_fin_yes HOo.out h0 HQ.out hP hE)
        clear hP
        go_wp2
        refine bodyPost_ret (v := .tuple #[.agg #[.int .i64 op, .int .i64 q.1, .int .i64 q.2.1, .int .i64 q.2.2.1, .int .i64 q.2.2.2], .int .i64 0]) (by simp [results, Tryd.results17, go_sem, k0, k1, k2, k3, k4]) rfl ⟨HFn.out, ?_⟩
        exact five_below B6.out (Nat.le_refl _) _ _ _ _ _
      · have hE' : (P.toList == s.toList) = false := by simpa using hE
        have HFn := Lib.hid (rpe_fin_no HOo.out h0 HQ.out hP hE)
        clear hP
        go_wp2
        refine bodyPost_ret (v := .tuple #[.agg #[.int .i64 0, .int .i64 0, .int .i64 0, .int .i64 0, .int .i64 0], .int .i64 2]) (by simp [results, Tryd.results17, go_sem, k0, k1, k2, k3, k4]) rfl ⟨HFn.out, ?_⟩
        exact five_below B6.out (Nat.le_refl _) _ _ _ _ _
  · have Z1 := Lib.hid (ZW.start2 (cap := cap) HB.out hrow hg1 hg2 hcs rfl)
    clear hrow HB hg1 hg2 hcs
    generalize W.heap.size = g at *
    obtain ⟨L, hL⟩ : ∃ L, ats.length = L := ⟨_, rfl⟩
    have HLL := Lib.hid hL
    rw [hL] at HQ0 hal ⊢
    clear hL
    go_wp2_with fail
    go_loopw [7] (fun i wr => ∃ (k : Nat), k ≤ F.size ∧ k ≤ L ∧ i = .int .i64 k ∧ Hid (ZW w wr w.heap.size g h op (TX.rst s.data.toList (TX.os f) ats k) ats)) (fun i _ => F.size - (intOf i).toNat)
    case atStart => exact ⟨0, by omega, by omega, rfl, Z1⟩
    case round =>
      obtain ⟨k, hkF, hkL, rfl, hZ⟩ := hrel
      obtain ⟨q, hq⟩ : ∃ q, TX.rst s.data.toList (TX.os f) ats k = q := ⟨_, rfl⟩
      rw [hq] at hZ
      have HQk := Lib.hid hq
      by_cases hlt : (k : Int) < F.size
      · have hlt' : decide ((k : Int) < F.size) = true := by simpa using hlt
        have hk1 : k < F.size := by omega
        by_cases hlL : (k : Int) < L
        · have hlL' : decide ((k : Int) < L) = true := by simpa using hlL
          have hk2 : k < ats.length := by rw [HLL.out]; omega
          have ho := os_getD_le f k (by rw [← HZ.out]; exact hk1)
          have hc := HL.out k hk1
          have hx := hZ.out.2.2.2.2.2.1 k hk2
          obtain ⟨y, hyy⟩ : ∃ y, ats.getD k 4 = y := ⟨_, rfl⟩
          have hy : y ≤ 200 := by
            have := HAl.out y (by rw [← hyy, List.getD_eq_getElem?_getD, List.getElem?_eq_getElem hk2]; exact List.getElem_mem hk2)
            omega
          rw [hyy] at hx
          obtain ⟨o, hoo⟩ : ∃ o, (TX.os f).getD k 4 = o := ⟨_, rfl⟩
          rw [hoo] at ho hc
          obtain ⟨⟨c0, c1, c2, c3, c4⟩, f0, f1, f2, f3, f4⟩ := hZ.out.2.1
          clear hq
          have ho4 : o = 0 ∨ o = 1 ∨ o = 2 ∨ o = 3 := by omega
          clear ho
          rcases ho4 with rfl | rfl | rfl | rfl
          · have hcc : (F[k].toNat : Int) = 100 := by rw [hc]; rfl
            have HNx := Lib.hid (show TX.rst s.data.toList (TX.os f) ats (k + 1) = TX.wth 0 (TX.rn s.data.toList (y + 1)) q from rst_next HQk.out hoo hyy hk2)
            have HNm := Lib.hid (fun W z (hz : z = ((y + 1 : Nat) : Int)) => rnumber_z s z (y + 1) W hz hs (by omega))
            obtain ⟨nn, hnn⟩ : ∃ x, TX.rn s.data.toList (y + 1) = x := ⟨_, rfl⟩
            rw [hnn] at HNm HNx
            clear hnn hc hoo hyy
            have Z6 := Lib.hid (hZ.out.set0 nn)
            go_wp2_with (go_at_call 36; refine (HNm.out _ _ (by omega)).mono ?_; rintro e w4 ⟨rfl, rfl⟩)
            go_roundw
            case rel => exact ⟨k + 1, by omega, by omega, by go_num, by rw [HNx.out]; exact Z6⟩
            case measure => simp [intOf]; omega
          · have hcc : (F[k].toNat : Int) = 97 := by rw [hc]; rfl
            have HNx := Lib.hid (show TX.rst s.data.toList (TX.os f) ats (k + 1) = TX.wth 1 (TX.rn s.data.toList (y + 1)) q from rst_next HQk.out hoo hyy hk2)
            have HNm := Lib.hid (fun W z (hz : z = ((y + 1 : Nat) : Int)) => rnumber_z s z (y + 1) W hz hs (by omega))
            obtain ⟨nn, hnn⟩ : ∃ x, TX.rn s.data.toList (y + 1) = x := ⟨_, rfl⟩
            rw [hnn] at HNm HNx
            clear hnn hc hoo hyy
            have Z6 := Lib.hid (hZ.out.set1 nn)
            go_wp2_with (go_at_call 36; refine (HNm.out _ _ (by omega)).mono ?_; rintro e w4 ⟨rfl, rfl⟩)
            go_roundw
            case rel => exact ⟨k + 1, by omega, by omega, by go_num, by rw [HNx.out]; exact Z6⟩
            case measure => simp [intOf]; omega
          · have hcc : (F[k].toNat : Int) = 98 := by rw [hc]; rfl
            have HNx := Lib.hid (show TX.rst s.data.toList (TX.os f) ats (k + 1) = TX.wth 2 (TX.rn s.data.toList (y + 1)) q from rst_next HQk.out hoo hyy hk2)
            have HNm := Lib.hid (fun W z (hz : z = ((y + 1 : Nat) : Int)) => rnumber_z s z (y + 1) W hz hs (by omega))
            obtain ⟨nn, hnn⟩ : ∃ x, TX.rn s.data.toList (y + 1) = x := ⟨_, rfl⟩
            rw [hnn] at HNm HNx
            clear hnn hc hoo hyy
            have Z6 := Lib.hid (hZ.out.set2 nn)
            go_wp2_with (go_at_call 36; refine (HNm.out _ _ (by omega)).mono ?_; rintro e w4 ⟨rfl, rfl⟩)
            go_roundw
            case rel => exact ⟨k + 1, by omega, by omega, by go_num, by rw [HNx.out]; exact Z6⟩
            case measure => simp [intOf]; omega
          · have hcc : (F[k].toNat : Int) = 105 := by rw [hc]; rfl
            have HNx := Lib.hid (show TX.rst s.data.toList (TX.os f) ats (k + 1) = TX.wth 3 (TX.rn s.data.toList (y)) q from rst_next HQk.out hoo hyy hk2)
            have HNm := Lib.hid (fun W z (hz : z = ((y : Nat) : Int)) => rnumber_z s z (y) W hz hs (by omega))
            obtain ⟨nn, hnn⟩ : ∃ x, TX.rn s.data.toList (y) = x := ⟨_, rfl⟩
            rw [hnn] at HNm HNx
            clear hnn hc hoo hyy
            have Z6 := Lib.hid (hZ.out.set3 nn)
            go_wp2_with (go_at_call 36; refine (HNm.out _ _ (by omega)).mono ?_; rintro e w4 ⟨rfl, rfl⟩)
            go_roundw
            case rel => exact ⟨k + 1, by omega, by omega, by go_num, by rw [HNx.out]; exact Z6⟩
            case measure => simp [intOf]; omega
        · have hlL' : decide ((k : Int) < L) = false := by simpa using hlL
          have HQ := Lib.hid (show TX.rcand op s.data.toList = q by rw [HQ0.out, ← hq, show min F.size L = k by omega])
          clear hq
          obtain ⟨P, hP⟩ : ∃ P, (⟨(TX.pr op q.1 q.2.1 q.2.2.1 q.2.2.2).toArray⟩ : ByteArray) = P := ⟨_, rfl⟩
          have HPr := Lib.hid (fun W => rprint_any op q.1 q.2.1 q.2.2.1 q.2.2.2 W)
          rw [hP] at HPr
          obtain ⟨⟨c0, c1, c2, c3, c4⟩, f0, f1, f2, f3, f4⟩ := hZ.out.2.1
          go_wp2_with fail
          refine (HPr.out _).mono ?_; rintro e w6 ⟨rfl, hb6⟩
          have Z6 := Lib.hid (hZ.out.on hb6)
          clear hb6 hZ c0 c1 c2 c3 c4 f0 f1 f2 f3 f4
          obtain ⟨⟨c0, c1, c2, c3, c4⟩, f0, f1, f2, f3, f4⟩ := Z6.out.2.1
          obtain ⟨⟨k0, k1, k2, k3, k4⟩, l0, l1, l2, l3, l4⟩ := Z6.out.1
          have n1 := Z6.out.2.2.1.1
          have n2 : ¬ g = w.heap.size := fun e => n1 e.symm
          have B6 := Lib.hid Z6.out.2.2.2.2.2.2
          clear Z6
          by_cases hE : P.toList = s.toList
          · have hE' : (P.toList == s.toList) = true := by simpa using hE
            have HFn := Lib.hid (rpe_fin_yes HOo.out h0 HQ.out hP hE)
            clear hP
            go_wp2
            refine bodyPost_ret (v := .tuple #[.agg #[.int .i64 op, .int .i64 q.1, .int .i64 q.2.1, .int .i64 q.2.2.1, .int .i64 q.2.2.2], .int .i64 0]) (by simp [results, Tryd.results17, go_sem, k0, k1, k2, k3, k4]) rfl ⟨HFn.out, ?_⟩
            exact five_below B6.out (Nat.le_refl _) _ _ _ _ _
          · have hE' : (P.toList == s.toList) = false := by simpa using hE
            have HFn := Lib.hid (rpe_fin_no HOo.out h0 HQ.out hP hE)
            clear hP
            go_wp2
            refine bodyPost_ret (v := .tuple #[.agg #[.int .i64 0, .int .i64 0, .int .i64 0, .int .i64 0, .int .i64 0], .int .i64 2]) (by simp [results, Tryd.results17, go_sem, k0, k1, k2, k3, k4]) rfl ⟨HFn.out, ?_⟩
            exact five_below B6.out (Nat.le_refl _) _ _ _ _ _
      · have hlt' : decide ((k : Int) < F.size) = false := by simpa using hlt
        have HQ := Lib.hid (show TX.rcand op s.data.toList = q by rw [HQ0.out, ← hq, show min F.size L = k by omega])
        clear hq
        obtain ⟨P, hP⟩ : ∃ P, (⟨(TX.pr op q.1 q.2.1 q.2.2.1 q.2.2.2).toArray⟩ : ByteArray) = P := ⟨_, rfl⟩
        have HPr := Lib.hid (fun W => rprint_any op q.1 q.2.1 q.2.2.1 q.2.2.2 W)
        rw [hP] at HPr
        obtain ⟨⟨c0, c1, c2, c3, c4⟩, f0, f1, f2, f3, f4⟩ := hZ.out.2.1
        go_wp2_with fail
        refine (HPr.out _).mono ?_; rintro e w6 ⟨rfl, hb6⟩
        have Z6 := Lib.hid (hZ.out.on hb6)
        clear hb6 hZ c0 c1 c2 c3 c4 f0 f1 f2 f3 f4
        obtain ⟨⟨c0, c1, c2, c3, c4⟩, f0, f1, f2, f3, f4⟩ := Z6.out.2.1
        obtain ⟨⟨k0, k1, k2, k3, k4⟩, l0, l1, l2, l3, l4⟩ := Z6.out.1
        have n1 := Z6.out.2.2.1.1
        have n2 : ¬ g = w.heap.size := fun e => n1 e.symm
        have B6 := Lib.hid Z6.out.2.2.2.2.2.2
        clear Z6
        by_cases hE : P.toList = s.toList
        · have hE' : (P.toList == s.toList) = true := by simpa using hE
          have HFn := Lib.hid (rpe_fin_yes HOo.out h0 HQ.out hP hE)
          clear hP
          go_wp2
          refine bodyPost_ret (v := .tuple #[.agg #[.int .i64 op, .int .i64 q.1, .int .i64 q.2.1, .int .i64 q.2.2.1, .int .i64 q.2.2.2], .int .i64 0]) (by simp [results, Tryd.results17, go_sem, k0, k1, k2, k3, k4]) rfl ⟨HFn.out, ?_⟩
          exact five_below B6.out (Nat.le_refl _) _ _ _ _ _
        · have hE' : (P.toList == s.toList) = false := by simpa using hE
          have HFn := Lib.hid (rpe_fin_no HOo.out h0 HQ.out hP hE)
          clear hP
          go_wp2
          refine bodyPost_ret (v := .tuple #[.agg #[.int .i64 0, .int .i64 0, .int .i64 0, .int .i64 0, .int .i64 0], .int .i64 2]) (by simp [results, Tryd.results17, go_sem, k0, k1, k2, k3, k4]) rfl ⟨HFn.out, ?_⟩
          exact five_below B6.out (Nat.le_refl _) _ _ _ _ _
set_option maxHeartbeats 1600000 in
theorem rparse_op (s : ByteArray) (w : World) (hs : s.size ≤ 200) (ho : TX.oo (TX.hd s.data.toList) = 0) :
    Calls Tryd.prog 17 #[.string s] w fun e w' => e = .returned (.tuple #[.agg #[.int .i64 (TX.pq s.data.toList).1, .int .i64 (TX.pq s.data.toList).2.1, .int .i64 (TX.pq s.data.toList).2.2.1, .int .i64 (TX.pq s.data.toList).2.2.2.1, .int .i64 (TX.pq s.data.toList).2.2.2.2], .int .i64 (TX.pe s.data.toList)]) ∧ Below w.heap.size w w' := by
  have HC := Lib.hid (fun W => head_any s W hs)
  have HO' : Hid (∀ W, Calls Tryd.prog 12 #[.string ⟨(TX.hd s.data.toList).toArray⟩] W fun e w' => e = .returned (.int .i64 0) ∧ Below W.heap.size W w') := by
    rw [← ho]; exact Lib.hid (fun W => rop_any ⟨(TX.hd s.data.toList).toArray⟩ W)
  have HF := Lib.hid (pe_fin_nine ho)
  clear ho
  obtain ⟨X, hX⟩ : ∃ X, (⟨(TX.hd s.data.toList).toArray⟩ : ByteArray) = X := ⟨_, rfl⟩
  rw [hX] at HC HO'
  clear hX
  go_enter Tryd.func17, Tryd.ntmps17
  go_wp2_with fail
  refine (HC.out _).mono ?_; rintro e W0 ⟨rfl, rfl⟩
  go_wp2_with fail
  refine (HO'.out _).mono ?_; rintro e W ⟨rfl, hb⟩
  have Z1 := Lib.hid (ZW.start0 (op := 0) hb)
  clear hb
  obtain ⟨⟨k0, k1, k2, k3, k4⟩, l0, l1, l2, l3, l4⟩ := Z1.out.1
  have n1 := Z1.out.2.2.1.1
  have n2 : ¬ W.heap.size = w.heap.size := fun e => n1 e.symm
  have B6 := Lib.hid Z1.out.2.2.2.2.2.2
  clear Z1
  go_wp2
  refine bodyPost_ret (v := .tuple #[.agg #[.int .i64 0, .int .i64 0, .int .i64 0, .int .i64 0, .int .i64 0], .int .i64 9]) (by simp [results, Tryd.results17, go_sem, k0, k1, k2, k3, k4]) rfl ⟨HF.out, ?_⟩
  exact five_below B6.out (Nat.le_refl _) _ _ _ _ _
theorem rparse_any (s : ByteArray) (w : World) (hs : s.size ≤ 200) : Calls Tryd.prog 17 #[.string s] w fun e w' => e = .returned (.tuple #[.agg #[.int .i64 (TX.pq s.data.toList).1, .int .i64 (TX.pq s.data.toList).2.1, .int .i64 (TX.pq s.data.toList).2.2.1, .int .i64 (TX.pq s.data.toList).2.2.2.1, .int .i64 (TX.pq s.data.toList).2.2.2.2], .int .i64 (TX.pe s.data.toList)]) ∧ Below w.heap.size w w' := by
  by_cases h0 : TX.oo (TX.hd s.data.toList) = 0
  · exact rparse_op s w hs h0
  · have hb := TX.oo_bd (TX.hd s.data.toList)
    have h1 : 1 ≤ TX.oo (TX.hd s.data.toList) ∧ TX.oo (TX.hd s.data.toList) ≤ 63 := by omega
    have hf0 := IM.fm_some _ h1
    have hf1 := IM.fm_bd (TX.oo (TX.hd s.data.toList))
    exact rparse_ok s _ _ w hs rfl h0 rfl (by omega)
end Go.Proofs.YtfgkcjalfhbjjaaDoor
