/-
  The chapter's examples ('awake'); the laws on names, on printing, on parsing and on causes, walked: each returns true at every input and leaves all that was in memory as it was.
-/
import Derived.Test.YtfgkcjalfhbjjaaDoorWalkG
namespace Go.Proofs.YtfgkcjalfhbjjaaDoor
open Go.RowKit S02 S06
theorem pr_halt : TX.pr 61 0 0 0 0 = [104, 97, 108, 116] := by
  rw [TX.pr_tx (by decide)]
  decide
theorem ex_halt : TX.pe (⟨#[104, 97, 108, 116]⟩ : ByteArray).data.toList = 0 ∧ TX.pq (⟨#[104, 97, 108, 116]⟩ : ByteArray).data.toList = (61, 0, 0, 0, 0) := by
  have := TX.pe_pr (op := 61) (d := 0) (a := 0) (b := 0) (m := 0) (by decide)
  rw [pr_halt] at this
  exact this
theorem ex_gap : TX.pe (⟨#[104, 97, 108, 116, 32]⟩ : ByteArray).data.toList = 2 ∧ TX.pq (⟨#[104, 97, 108, 116, 32]⟩ : ByteArray).data.toList = (0, 0, 0, 0, 0) := by
  have e : TX.oo (TX.hd [104, 97, 108, 116, 32]) = 61 := by decide +kernel
  have c : TX.cand 61 [104, 97, 108, 116, 32] = (0, 0, 0, 0) := by decide +kernel
  refine TX.pe_own_no (l := [104, 97, 108, 116, 32]) (by rw [e]; decide) ?_
  rw [e, c, pr_halt]
  decide
theorem ex_addi : (⟨(TX.pr 25 1 0 0 (-5)).toArray⟩ : ByteArray) = ⟨#[97, 100, 100, 105, 32, 114, 49, 44, 32, 114, 48, 44, 32, 45, 53]⟩ := by
  rw [TX.pr_tx (by decide), show TX.os (IM.fm 25) = [0, 1, 3] by decide, TX.tx, show TX.wr 1 0 0 (-5) 0 = 114 :: Lib.itoa 1 from rfl, show TX.wr 1 0 0 (-5) 1 = 114 :: Lib.itoa 0 from rfl, show TX.wr 1 0 0 (-5) 3 = Lib.itoa (-5) from rfl,
    NM.itoa_of 1 1 rfl, NM.itoa_of 0 0 rfl, NM.itoa_of_neg (-5) 5 rfl (by omega), Lib.decDigits_one (by omega), Lib.decDigits_one (by omega), Lib.decDigits_one (by omega)]
  rfl
theorem lt_after {w w1 : World} {x : Obj} (h : Below (w.alloc x).heap.size (w.alloc x) w1) : w.heap.size < w1.heap.size := Nat.lt_of_lt_of_le (by simp) h.size
set_option maxHeartbeats 1600000 in
theorem awake_any (w : World) (ht : Tb w) : Calls Tryd.prog 8 #[] w fun e w' => e = .returned (.bool true) ∧ Below w.heap.size w w' := by
  have HT := Lib.hid ht
  have T0 := Lib.hid (ht.new (.cells #[.int .i64 25, .int .i64 1, .int .i64 0, .int .i64 0, .int .i64 (-5)] 27))
  have P1 := Lib.hid (fun W (hW : Tb W) => parse_any ⟨#[104, 97, 108, 116]⟩ W (by decide) hW)
  rw [ex_halt.1, ex_halt.2] at P1
  have P2 := Lib.hid (fun W (hW : Tb W) => parse_any ⟨#[104, 97, 108, 116, 32]⟩ W (by decide) hW)
  rw [ex_gap.1, ex_gap.2] at P2
  have P3 := Lib.hid (fun W (hW : Tb W) => print_any 25 1 0 0 (-5) W hW)
  rw [ex_addi] at P3
  clear ht
  go_enter Tryd.func8, Tryd.ntmps8
  go_wp2_with fail
  refine (P1.out _ T0.out).mono ?_; rintro e w1 ⟨rfl, h1⟩
  have A1 := Lib.hid ((At.new w 27 25 1 0 0 (-5)).below (by simp) h1)
  have S1 := Lib.hid (lt_after h1)
  have B1 := Lib.hid (below_new h1)
  have T1 := Lib.hid ((T0.out.on h1).new (.cells #[.int .i64 61, .int .i64 0, .int .i64 0, .int .i64 0, .int .i64 0] 27))
  clear h1 T0
  go_wp2_with fail
  refine (P2.out _ T1.out).mono ?_; rintro e w2 ⟨rfl, h2⟩
  have S2 := Lib.hid (lt_after h2)
  have A2 := Lib.hid (((A1.out.more S1.out _).below (by have := S1.out; simp; omega) h2).more (Nat.lt_trans S1.out S2.out) (.cells #[.int .i64 0, .int .i64 0, .int .i64 0, .int .i64 0, .int .i64 0] 27))
  have J2 := Lib.hid (((At.new w1 27 61 0 0 0 0).below (by simp) h2).more S2.out (.cells #[.int .i64 0, .int .i64 0, .int .i64 0, .int .i64 0, .int .i64 0] 27))
  have B2 := Lib.hid (B1.out.trans ((below_new h2).mono (Nat.le_of_lt S1.out)))
  have T2 := Lib.hid ((HT.out.on B2.out).new (.cells #[.int .i64 0, .int .i64 0, .int .i64 0, .int .i64 0, .int .i64 0] 27))
  clear h2 T1 A1 B1
  obtain ⟨⟨c0, c1, c2, c3, c4⟩, f0, f1, f2, f3, f4⟩ := A2.out
  go_wp2_with fail
  refine (P3.out _ T2.out).mono ?_; rintro e w3 ⟨rfl, h3⟩
  have J3 := Lib.hid (J2.out.below (by have := S2.out; simp; omega) h3)
  have B3 := Lib.hid (B2.out.trans ((below_new h3).mono (Nat.le_of_lt (Nat.lt_trans S1.out S2.out))))
  clear h3 T2 A2 J2 B2 c0 c1 c2 c3 c4 f0 f1 f2 f3 f4
  obtain ⟨⟨c0, c1, c2, c3, c4⟩, f0, f1, f2, f3, f4⟩ := J3.out
  clear J3
  go_wp2_with (go_at_call 18; refine (cause_9 _).mono ?_; rintro e w4 ⟨rfl, rfl⟩)
  go_ret
  exact ⟨rfl, B3.out⟩
theorem nil_facts {N : ByteArray} (h : ¬ N.toList = []) : (N.toList == []) = false ∧ N.toList.isEmpty = false := ⟨by simpa using h, by simpa using h⟩
theorem list_of {l : List UInt8} {S : ByteArray} (h : (⟨l.toArray⟩ : ByteArray) = S) : S.toList = l := by rw [← h, ByteArray.toList_eq]
set_option maxHeartbeats 1600000 in
theorem names_walk (op : Int) (s : ByteArray) (w : World) (_ : s.size ≤ maxLen) (ht : Tb w) :
    Calls Tryd.prog 3 #[.int .i64 op, .string s] w fun e w' => e = .returned (.bool true) ∧ Below w.heap.size w w' := by
  have HT := Lib.hid ht
  clear ht
  by_cases hl : 200 < (s.size : Int)
  · go_enter Tryd.func3, Tryd.ntmps3
    go_wp2_with (go_at_call 8; refine (awake_any _ HT.out).mono ?_; rintro e w1 ⟨rfl, hb⟩)
    go_ret
    exact ⟨rfl, hb⟩
  · have hl' : decide (200 < (s.size : Int)) = false := by simp only [decide_eq_false_iff_not]; omega
    have H1 := Lib.hid (fun W (hW : Tb W) => name_any op W hW)
    have H2 := Lib.hid (fun W => rname_any op W)
    have H3 := Lib.hid (fun W (hW : Tb W) => op_any s W hW)
    have H4 := Lib.hid (fun W => rop_any s W)
    have H5 := Lib.hid (fun W (hW : Tb W) => op_any ⟨(TX.nm op).toArray⟩ W hW)
    have H6 : Hid (∀ W, Tb W → Calls Tryd.prog 11 #[.string ⟨#[]⟩] W fun e w' => e = .returned (.int .i64 0) ∧ W = w') := Lib.hid (fun W (hW : Tb W) => op_any ⟨#[]⟩ W hW)
    obtain ⟨S, hS⟩ : ∃ S, (⟨(TX.nm op).toArray⟩ : ByteArray) = S := ⟨_, rfl⟩
    obtain ⟨o, ho⟩ : ∃ o, TX.oo s.data.toList = o := ⟨_, rfl⟩
    rw [hS] at H1 H2
    rw [ho] at H3 H4
    have hn := TX.nm_law op
    by_cases hN : TX.nm op = []
    · have hE : S.toList = [] := (list_of hS).trans hN
      clear hS ho hn H5 hN
      go_enter Tryd.func3, Tryd.ntmps3
      go_wp2_with fail
      refine (H1.out _ HT.out).mono ?_; rintro e w1 ⟨rfl, rfl⟩
      go_wp2_with fail
      refine (H2.out _).mono ?_; rintro e w1 ⟨rfl, hb⟩
      have B1 := Lib.hid hb
      have T1 := Lib.hid (HT.out.on hb)
      clear hb
      go_wp2_with fail
      refine (H3.out _ T1.out).mono ?_; rintro e w2 ⟨rfl, rfl⟩
      go_wp2_with fail
      refine (H4.out _).mono ?_; rintro e w2 ⟨rfl, hb⟩
      have B2 := Lib.hid (B1.out.trans (hb.mono B1.out.size))
      have T2 := Lib.hid (T1.out.on hb)
      clear hb
      go_wp2_with fail
      refine (H6.out _ T2.out).mono ?_; rintro e w3 ⟨rfl, rfl⟩
      go_wp2_with fail
      refine (awake_any _ T2.out).mono ?_; rintro e w3 ⟨rfl, hb⟩
      have B3 := Lib.hid (B2.out.trans (hb.mono B2.out.size))
      clear hb
      go_wp2
      go_ret
      exact ⟨rfl, B3.out⟩
    · have hE : ¬ S.toList = [] := fun e => hN ((list_of hS).symm.trans e)
      obtain ⟨hE1, hE2⟩ := nil_facts hE
      have hop := hn.resolve_left hN
      have H5' : Hid (∀ W, Tb W → Calls Tryd.prog 11 #[.string S] W fun e w' => e = .returned (.int .i64 op) ∧ W = w') := by
        rw [← hS]
        have := H5.out
        rw [show (⟨(TX.nm op).toArray⟩ : ByteArray).data.toList = TX.nm op from rfl, hop] at this
        exact Lib.hid this
      clear hS ho hn H5 hN hop
      go_enter Tryd.func3, Tryd.ntmps3
      go_wp2_with fail
      refine (H1.out _ HT.out).mono ?_; rintro e w1 ⟨rfl, rfl⟩
      go_wp2_with fail
      refine (H2.out _).mono ?_; rintro e w1 ⟨rfl, hb⟩
      have B1 := Lib.hid hb
      have T1 := Lib.hid (HT.out.on hb)
      clear hb
      go_wp2_with fail
      refine (H3.out _ T1.out).mono ?_; rintro e w2 ⟨rfl, rfl⟩
      go_wp2_with fail
      refine (H4.out _).mono ?_; rintro e w2 ⟨rfl, hb⟩
      have B2 := Lib.hid (B1.out.trans (hb.mono B1.out.size))
      have T2 := Lib.hid (T1.out.on hb)
      clear hb
      go_wp2_with fail
      refine (H5'.out _ T2.out).mono ?_; rintro e w3 ⟨rfl, rfl⟩
      go_wp2_with fail
      refine (H6.out _ T2.out).mono ?_; rintro e w3 ⟨rfl, rfl⟩
      go_wp2_with fail
      refine (awake_any _ T2.out).mono ?_; rintro e w3 ⟨rfl, hb⟩
      have B3 := Lib.hid (B2.out.trans (hb.mono B2.out.size))
      clear hb
      go_wp2
      go_ret
      exact ⟨rfl, B3.out⟩
set_option maxHeartbeats 1600000 in
theorem prints_walk (op d a b m : Int) (w : World) (ht : Tb w) :
    Calls Tryd.prog 4 #[.agg #[.int .i64 op, .int .i64 d, .int .i64 a, .int .i64 b, .int .i64 m]] w fun e w' => e = .returned (.bool true) ∧ Below w.heap.size w w' := by
  have HT := Lib.hid ht
  have T0 := Lib.hid (ht.new (.cells #[.int .i64 op, .int .i64 d, .int .i64 a, .int .i64 b, .int .i64 m] 27))
  clear ht
  have H1 := Lib.hid (fun W (hW : Tb W) => print_any op d a b m W hW)
  have H2 := Lib.hid (fun W => rprint_any op d a b m W)
  have H3 := Lib.hid (fun W => rright_any op d a b m W)
  obtain ⟨S, hS⟩ : ∃ S, (⟨(TX.pr op d a b m).toArray⟩ : ByteArray) = S := ⟨_, rfl⟩
  rw [hS] at H1 H2
  by_cases hr : IM.rc op d a b m = 0
  · rw [hr] at H3
    have hz : S.size ≤ 200 := by rw [← hS, ba_size]; have := TX.pr_len op d a b m; omega
    have H4 := Lib.hid (fun W (hW : Tb W) => parse_any S W hz hW)
    have hd : S.data.toList = TX.pr op d a b m := by rw [← hS]
    obtain ⟨e1, e2⟩ := TX.pe_pr hr
    rw [hd, e1, e2] at H4
    clear hS hr hd e1 e2 hz
    go_enter Tryd.func4, Tryd.ntmps4
    go_wp2_with fail
    refine (H1.out _ T0.out).mono ?_; rintro e w1 ⟨rfl, hb⟩
    have Q1 := Lib.hid (QW.start hb)
    clear hb T0
    obtain ⟨⟨c0, c1, c2, c3, c4⟩, f0, f1, f2, f3, f4⟩ := Q1.out.1
    go_wp2_with fail
    refine (H2.out _).mono ?_; rintro e w2 ⟨rfl, hb⟩
    have Q2 := Lib.hid (Q1.out.on hb)
    clear hb Q1 c0 c1 c2 c3 c4 f0 f1 f2 f3 f4
    obtain ⟨⟨c0, c1, c2, c3, c4⟩, f0, f1, f2, f3, f4⟩ := Q2.out.1
    go_wp2_with fail
    refine (H3.out _).mono ?_; rintro e w3 ⟨rfl, hb⟩
    have Q3 := Lib.hid (Q2.out.on hb)
    clear hb Q2 c0 c1 c2 c3 c4 f0 f1 f2 f3 f4
    go_wp2_with fail
    refine (H4.out _ (HT.out.on Q3.out.2.2)).mono ?_; rintro e w4 ⟨rfl, hb⟩
    have Q4 := Lib.hid (Q3.out.on hb)
    clear hb Q3
    have A4 := Lib.hid (Q4.out.1.more Q4.out.2.1 (.cells #[.int .i64 op, .int .i64 d, .int .i64 a, .int .i64 b, .int .i64 m] 27))
    have T4 := Lib.hid ((HT.out.on Q4.out.2.2).new (.cells #[.int .i64 op, .int .i64 d, .int .i64 a, .int .i64 b, .int .i64 m] 27))
    have B4 := Lib.hid (Q4.out.2.2.alloc (Nat.le_of_lt Q4.out.2.1) (.cells #[.int .i64 op, .int .i64 d, .int .i64 a, .int .i64 b, .int .i64 m] 27))
    clear Q4
    obtain ⟨⟨c0, c1, c2, c3, c4⟩, f0, f1, f2, f3, f4⟩ := A4.out
    clear A4
    go_wp2_with fail
    refine (awake_any _ T4.out).mono ?_; rintro e w5 ⟨rfl, hb⟩
    have B5 := Lib.hid (B4.out.trans (hb.mono B4.out.size))
    clear hb
    go_wp2
    go_ret
    exact ⟨rfl, B5.out⟩
  · have hE : S.toList = [] := by rw [list_of hS, TX.pr_no hr]
    generalize IM.rc op d a b m = r at *
    have hr' : (r == 0) = false := by simpa using hr
    clear hS
    go_enter Tryd.func4, Tryd.ntmps4
    go_wp2_with fail
    refine (H1.out _ T0.out).mono ?_; rintro e w1 ⟨rfl, hb⟩
    have Q1 := Lib.hid (QW.start hb)
    clear hb T0
    obtain ⟨⟨c0, c1, c2, c3, c4⟩, f0, f1, f2, f3, f4⟩ := Q1.out.1
    go_wp2_with fail
    refine (H2.out _).mono ?_; rintro e w2 ⟨rfl, hb⟩
    have Q2 := Lib.hid (Q1.out.on hb)
    clear hb Q1 c0 c1 c2 c3 c4 f0 f1 f2 f3 f4
    obtain ⟨⟨c0, c1, c2, c3, c4⟩, f0, f1, f2, f3, f4⟩ := Q2.out.1
    go_wp2_with fail
    refine (H3.out _).mono ?_; rintro e w3 ⟨rfl, hb⟩
    have Q3 := Lib.hid (Q2.out.on hb)
    clear hb Q2 c0 c1 c2 c3 c4 f0 f1 f2 f3 f4
    go_wp2_with fail
    refine (awake_any _ (HT.out.on Q3.out.2.2)).mono ?_; rintro e w4 ⟨rfl, hb⟩
    have Q4 := Lib.hid (Q3.out.on hb)
    clear hb Q3
    go_wp2
    go_ret
    exact ⟨rfl, Q4.out.2.2⟩
set_option maxHeartbeats 1600000 in
theorem parses_walk (s : ByteArray) (w : World) (_ : s.size ≤ maxLen) (ht : Tb w) :
    Calls Tryd.prog 5 #[.string s] w fun e w' => e = .returned (.bool true) ∧ Below w.heap.size w w' := by
  have HT := Lib.hid ht
  clear ht
  by_cases hl : 200 < (s.size : Int)
  · go_enter Tryd.func5, Tryd.ntmps5
    go_wp2_with (go_at_call 8; refine (awake_any _ HT.out).mono ?_; rintro e w1 ⟨rfl, hb⟩)
    go_ret
    exact ⟨rfl, hb⟩
  · have hl' : decide (200 < (s.size : Int)) = false := by simp only [decide_eq_false_iff_not]; omega
    have hs : s.size ≤ 200 := by omega
    have H1 := Lib.hid (fun W (hW : Tb W) => parse_any s W hs hW)
    have H2 := Lib.hid (fun W => rparse_any s W hs)
    have hpq := fun h => TX.pq_pr (l := s.data.toList) h
    obtain ⟨q, hq⟩ : ∃ q, TX.pq s.data.toList = q := ⟨_, rfl⟩
    obtain ⟨E, hE⟩ : ∃ x, TX.pe s.data.toList = x := ⟨_, rfl⟩
    rw [hq, hE] at H1 H2
    rw [hq, hE] at hpq
    obtain ⟨O, D, A, B, M⟩ := q
    clear hq hE
    by_cases h0 : E = 0
    · have hP := hpq h0
      subst h0
      have H3 := Lib.hid (fun W (hW : Tb W) => print_any O D A B M W hW)
      rw [show TX.pr O D A B M = s.data.toList from hP] at H3
      rw [show (⟨s.data.toList.toArray⟩ : ByteArray) = s from ba_eq rfl] at H3
      clear hP hpq
      go_enter Tryd.func5, Tryd.ntmps5
      go_wp2_with fail
      refine (H1.out _ HT.out).mono ?_; rintro e w1 ⟨rfl, hb⟩
      have B1 := Lib.hid hb
      clear hb
      have B1' := Lib.hid (B1.out.alloc B1.out.size (.cells #[.int .i64 O, .int .i64 D, .int .i64 A, .int .i64 B, .int .i64 M] 27))
      go_wp2_with fail
      refine (H2.out _).mono ?_; rintro e w2 ⟨rfl, hb⟩
      have S2 := Lib.hid (lt_after hb)
      have A2 := Lib.hid (((At.new w1 27 O D A B M).below (by simp) hb).more S2.out (.cells #[.int .i64 O, .int .i64 D, .int .i64 A, .int .i64 B, .int .i64 M] 27))
      have B2 := Lib.hid ((B1.out.trans ((below_new hb).mono B1.out.size)).alloc (Nat.le_of_lt (Nat.lt_of_le_of_lt B1.out.size S2.out)) (.cells #[.int .i64 O, .int .i64 D, .int .i64 A, .int .i64 B, .int .i64 M] 27))
      clear hb B1'
      obtain ⟨⟨c0, c1, c2, c3, c4⟩, f0, f1, f2, f3, f4⟩ := A2.out
      clear A2
      go_wp2_with fail
      refine (H3.out _ (HT.out.on B2.out)).mono ?_; rintro e w3 ⟨rfl, hb⟩
      have B3 := Lib.hid (B2.out.trans (hb.mono B2.out.size))
      clear hb
      go_wp2_with fail
      refine (awake_any _ (HT.out.on B3.out)).mono ?_; rintro e w4 ⟨rfl, hb⟩
      have B4 := Lib.hid (B3.out.trans (hb.mono B3.out.size))
      clear hb
      go_wp2
      go_ret
      exact ⟨rfl, B4.out⟩
    · have h0' : (E == 0) = false := by simpa using h0
      clear hpq
      go_enter Tryd.func5, Tryd.ntmps5
      go_wp2_with fail
      refine (H1.out _ HT.out).mono ?_; rintro e w1 ⟨rfl, hb⟩
      have B1 := Lib.hid hb
      clear hb
      have B1' := Lib.hid (B1.out.alloc B1.out.size (.cells #[.int .i64 O, .int .i64 D, .int .i64 A, .int .i64 B, .int .i64 M] 27))
      go_wp2_with fail
      refine (H2.out _).mono ?_; rintro e w2 ⟨rfl, hb⟩
      have S2 := Lib.hid (lt_after hb)
      have A2 := Lib.hid (((At.new w1 27 O D A B M).below (by simp) hb).more S2.out (.cells #[.int .i64 O, .int .i64 D, .int .i64 A, .int .i64 B, .int .i64 M] 27))
      have B2 := Lib.hid ((B1.out.trans ((below_new hb).mono B1.out.size)).alloc (Nat.le_of_lt (Nat.lt_of_le_of_lt B1.out.size S2.out)) (.cells #[.int .i64 O, .int .i64 D, .int .i64 A, .int .i64 B, .int .i64 M] 27))
      clear hb B1'
      obtain ⟨⟨c0, c1, c2, c3, c4⟩, f0, f1, f2, f3, f4⟩ := A2.out
      clear A2
      go_wp2_with fail
      refine (awake_any _ (HT.out.on B2.out)).mono ?_; rintro e w4 ⟨rfl, hb⟩
      have B4 := Lib.hid (B2.out.trans (hb.mono B2.out.size))
      clear hb
      go_wp2
      go_ret
      exact ⟨rfl, B4.out⟩
set_option maxHeartbeats 1600000 in
theorem causes_walk (n m : Int) (w : World) (ht : Tb w) :
    Calls Tryd.prog 7 #[.int .i64 n, .int .i64 m] w fun e w' => e = .returned (.bool true) ∧ Below w.heap.size w w' := by
  have HT := Lib.hid ht
  clear ht
  have H1 := Lib.hid (fun W => cause_any n W)
  have H2 := Lib.hid (fun W => rcause_any n W)
  have H3 := Lib.hid (fun W => cause_any m W)
  obtain ⟨S, hS⟩ : ∃ S, (⟨(TX.cs n).toArray⟩ : ByteArray) = S := ⟨_, rfl⟩
  obtain ⟨U, hU⟩ : ∃ S, (⟨(TX.cs m).toArray⟩ : ByteArray) = S := ⟨_, rfl⟩
  rw [hS] at H1 H2
  rw [hU] at H3
  by_cases hN : S.toList = []
  · clear hS hU H3
    go_enter Tryd.func7, Tryd.ntmps7
    go_wp2_with fail
    refine (H1.out _).mono ?_; rintro e w1 ⟨rfl, rfl⟩
    go_wp2_with fail
    refine (H2.out _).mono ?_; rintro e w1 ⟨rfl, hb⟩
    have B1 := Lib.hid hb
    clear hb
    go_wp2_with fail
    refine (awake_any _ (HT.out.on B1.out)).mono ?_; rintro e w2 ⟨rfl, hb⟩
    have B2 := Lib.hid (B1.out.trans (hb.mono B1.out.size))
    clear hb
    go_wp2
    go_ret
    exact ⟨rfl, B2.out⟩
  · obtain ⟨hE1, hE2⟩ := nil_facts hN
    by_cases hnm : n = m
    · subst hnm
      clear hS hU H3
      go_enter Tryd.func7, Tryd.ntmps7
      go_wp2_with fail
      refine (H1.out _).mono ?_; rintro e w1 ⟨rfl, rfl⟩
      go_wp2_with fail
      refine (H2.out _).mono ?_; rintro e w1 ⟨rfl, hb⟩
      have B1 := Lib.hid hb
      clear hb
      go_wp2_with fail
      refine (awake_any _ (HT.out.on B1.out)).mono ?_; rintro e w2 ⟨rfl, hb⟩
      have B2 := Lib.hid (B1.out.trans (hb.mono B1.out.size))
      clear hb
      go_wp2
      go_ret
      exact ⟨rfl, B2.out⟩
    · have hnm' : (n == m) = false := by simpa using hnm
      have hne : ¬ U.toList = S.toList := fun e => hnm (TX.cs_once (by rw [← list_of hS, ← list_of hU, e]) (by rw [← list_of hS]; exact hN))
      have hne' : (U.toList == S.toList) = false := by simpa using hne
      clear hS hU
      go_enter Tryd.func7, Tryd.ntmps7
      go_wp2_with fail
      refine (H1.out _).mono ?_; rintro e w1 ⟨rfl, rfl⟩
      go_wp2_with fail
      refine (H2.out _).mono ?_; rintro e w1 ⟨rfl, hb⟩
      have B1 := Lib.hid hb
      clear hb
      go_wp2_with fail
      refine (H3.out _).mono ?_; rintro e w2 ⟨rfl, rfl⟩
      go_wp2_with fail
      refine (awake_any _ (HT.out.on B1.out)).mono ?_; rintro e w2 ⟨rfl, hb⟩
      have B2 := Lib.hid (B1.out.trans (hb.mono B1.out.size))
      clear hb
      go_wp2
      go_ret
      exact ⟨rfl, B2.out⟩
end Go.Proofs.YtfgkcjalfhbjjaaDoor
