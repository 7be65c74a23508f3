/-
  The law on two tables: it returns true for all slices of bytes and accesses, and leaves all that was in memory as it was.
-/
import Derived.Test.YtbeenmglgdhbjaaLsB
namespace Go.Proofs.Ytbeenmglgdhbjaa
open Go.RowKit Go.Maps S01 S10 S11 S12
/-- A copy under work: its bytes lie in a block that was not there at the beginning. -/
def Mem (w : World) (B : Nat) (A : Option Addr) (n c : Nat) (bs : List UInt8) : Prop := bs.length = n ∧ (0 < n → ∃ G, A = some ⟨G, 0, none⟩ ∧ n ≤ c ∧ c ≤ maxLen ∧ B ≤ G ∧ Wb w G bs)
theorem Mem.of_own {w : World} {B n : Nat} {v : Value} {bs : List UInt8} (h : w.ownsRow B 5 1 v n (byC bs)) (hn : bs.length = n) : ∃ A c, v = .slice A n c ∧ Mem w B A n c bs := by
  by_cases h0 : 0 < n
  · obtain ⟨G, cap, rfl, h1, h2, h3, h4⟩ := Wb.of_own h h0 hn
    exact ⟨_, cap, rfl, hn, fun _ => ⟨G, rfl, h2, h3, h1, h4⟩⟩
  · obtain rfl : n = 0 := by omega
    rcases h.2 with ⟨e, -⟩ | ⟨g, cap, cur, e, -⟩
    · exact ⟨_, _, e, hn, fun h => absurd h h0⟩
    · exact ⟨_, _, e, hn, fun h => absurd h h0⟩
theorem Mem.by {w : World} {B n c : Nat} {A : Option Addr} {bs : List UInt8} (h : Mem w B A n c bs) : ByR w (.slice A n c) bs := by
  obtain ⟨h1, h2⟩ := h
  subst h1
  by_cases h0 : 0 < bs.length
  · obtain ⟨G, rfl, h3, h4, -, h5⟩ := h2 h0
    exact h5.by h3 h4
  · have e : bs = [] := List.eq_nil_of_length_eq_zero (by omega)
    subst e
    exact .inl ⟨rfl, _, _, rfl⟩
theorem ag_at {l b : List UInt8} {j : Nat} (hj : j < l.length) : (l.set j (b.getD j 0)).getD j 0 = b.getD j 0 := by
  rw [List.getD_eq_getElem?_getD, List.getElem?_set_self hj]; rfl
theorem ag_keep {l b : List UInt8} {i j : Nat} (h : l.getD i 0 = b.getD i 0) : (l.set j (b.getD j 0)).getD i 0 = b.getD i 0 := by
  by_cases hj : i = j
  · subst hj
    by_cases hl : i < l.length
    · exact ag_at hl
    · rw [← h, List.getD_eq_getElem?_getD, List.getD_eq_getElem?_getD, List.getElem?_eq_none (by rw [List.length_set]; omega), List.getElem?_eq_none (by omega)]
  · rw [← h, List.getD_eq_getElem?_getD, List.getElem?_set_ne (fun e => hj e.symm), ← List.getD_eq_getElem?_getD]
/-- The words of the first k addresses are those of the other. -/
def Ag (L : List Int) (k : Nat) (m s : List UInt8) : Prop := ∀ j, j < k → ∀ d, d < 4 → m.getD ((L.getD j 0).toNat + d) 0 = s.getD ((L.getD j 0).toNat + d) 0
theorem Ag.zero (L : List Int) (m s : List UInt8) : Ag L 0 m s := fun j hj => absurd hj (Nat.not_lt_zero j)
theorem Ag.set {L : List Int} {k i : Nat} {m s : List UInt8} (h : Ag L k m s) : Ag L k (m.set i (s.getD i 0)) s := fun j hj d hd => ag_keep (h j hj d hd)
theorem Ag.more {L : List Int} {k z : Nat} {m s : List UInt8} (h : Ag L k m s) (hz : L.getD k 0 = z) (h4 : ∀ d, d < 4 → m.getD (z + d) 0 = s.getD (z + d) 0) : Ag L (k + 1) m s := by
  intro j hj d hd
  by_cases hk : j < k
  · exact h j hk d hd
  · obtain rfl : j = k := by omega
    rw [hz]; exact h4 d hd
theorem Ag.two {m s : List UInt8} {root va : Int} (hl : m.length = s.length) (h : Ag (WK.wk s root va).L (WK.wk s root va).L.length m s) : WK.wk m root va = WK.wk s root va := by
  refine WK.wk_two hl fun p hp j hj => ?_
  obtain ⟨i, hi, rfl⟩ := List.getElem_of_mem hp
  have e := h i hi j hj
  have g : (WK.wk s root va).L.getD i 0 = (WK.wk s root va).L[i] := by rw [List.getD_eq_getElem?_getD, List.getElem?_eq_getElem hi]; rfl
  rwa [g] at e
set_option maxRecDepth 100000 in
set_option maxHeartbeats 6400000 in
theorem two_on {w : World} {v u : Value} {bs os : List UInt8} {n : Nat} (va a : Int) (hv : ByR w v bs) (hu : ByR w u os) (hn : bs.length = n) (hm : os.length = n) (hl : n ≤ 1024) (a0 : 0 ≤ va) (a1 : va < 4294967296) (_g0 : -9223372036854775808 ≤ a) (_g1 : a < 9223372036854775808) :
    Calls Try.prog 6 #[v, u, QV va a] w fun e w' => e = .returned (.bool true) ∧ Below w.heap.size w w' := by
  have HA := Lib.hid awake_any
  obtain ⟨rt, hrt⟩ : ∃ rt, a % 4294967296 % 2048 = rt := ⟨_, rfl⟩
  have HRT := Lib.hid hrt
  have r0 : 0 ≤ rt := by omega
  have r1 : rt < 2048 := by omega
  clear hrt
  have H1 := Lib.hid (fun (W : World) (hb : Below w.heap.size w W) => walk_any (w := W) rt va (hv.below hb) (by unfold maxLen; omega) r0 (by omega) a0 a1)
  have H2 := Lib.hid (fun (W : World) (x : Value) (m : List UInt8) (hx : ByR W x m) (hml : m.length = n) (ha : Ag (WK.wk bs rt va).L (WK.wk bs rt va).L.length m bs) =>
    show Calls Try.prog 9 #[x, .int .u32 rt, .int .u32 va] W (WkPost W (WK.wk bs rt va)) from Ag.two (root := rt) (va := va) (hml.trans hn.symm) ha ▸ walk_any (w := W) (v := x) (bs := m) rt va hx (by unfold maxLen; omega) r0 (by omega) a0 a1)
  have HLL := Lib.hid ((WK.wk_bd (m := bs) (root := rt) (va := va)).2.2.2.2)
  rw [hn] at HLL
  unfold WkPost PV at H1 H2
  generalize WK.wk bs rt va = r at *
  obtain ⟨rb, rg, L, ro⟩ := r
  dsimp only at H1 H2 HLL
  have HBS := Lib.hid (fun (W : World) (hb : Below w.heap.size w W) => hv.below hb)
  have HUS := Lib.hid (fun (W : World) (hb : Below w.heap.size w W) => hu.below hb)
  obtain ⟨A, ca, rfl⟩ := by_form hv
  obtain ⟨C, cc, rfl⟩ := by_form hu
  rw [hn] at HBS H1 ⊢
  rw [hm] at HUS ⊢
  have HNB := Lib.hid hn
  have HNU := Lib.hid hm
  have hd : decide (1024 < (n : Int)) = false := by simp; omega
  have B0 := Lib.hid (below_one w (.cells #[.int .u32 va, .int .i64 a] 37))
  have Q0 := Lib.hid (Qk.new w va a)
  clear hv hu hn hm
  unfold QV
  go_enter Try.func6, Try.ntmps6
  go_upto_region 1 with fail
  generalize World.alloc w _ = W0 at B0 Q0 ⊢
  generalize w.heap.size = t at Q0 ⊢
  have c0 := Q0.out.c0
  have c1 := Q0.out.c1
  go_upto_region 4 with fail
  rw [HRT.out]
  go_upto_region 5 with (go_at_call 9; (with_reducible refine (H1.out _ B0.out).mono ?_); rintro e w1 ⟨x, rfl, ho, hb⟩; have O1 := Lib.hid (own_base ho B0.out.size); have B1 := Lib.hid (below_then B0.out hb); have Q1 := Lib.hid (Q0.out.below hb); clear ho hb)
  have hb := below_one w1 (.cells #[.int .u32 rb, .int .i64 rg] 26)
  have L5 := Lib.hid (Pk.new w1 rb rg)
  have B5 := Lib.hid (below_then B1.out hb)
  have Q5 := Lib.hid (Q1.out.below hb)
  have O5 := Lib.hid (own_later O1.out hb)
  clear hb c0 c1
  generalize World.alloc w1 _ = W5 at L5 B5 Q5 O5 ⊢
  generalize w1.heap.size = s at *
  clear B0 Q0 H1 O1 B1 Q1
  obtain ⟨X, xc, rfl⟩ := words_form O5.out
  obtain ⟨N, hNN⟩ : ∃ N, L.length = N := ⟨_, rfl⟩
  rw [hNN] at O5 H2 HLL ⊢
  have HNL := Lib.hid hNN
  have hN2 : N ≤ 2 := HLL.out.1
  clear hNN
  have HO := Lib.hid (own_new W5)
  have HV := Lib.hid ((HUS.out W5 B5.out).below (below_one W5 (.cells #[] 5)))
  have HN5 := Lib.hid (show 0 + os.length ≤ 100000000 by rw [HNU.out]; omega)
  go_upto_region 6 with (at_builtin; refine wpList_append_by (v := .slice (some ⟨W5.heap.size, 0, none⟩) 0 0) (x := .slice C n cc) rfl (.tmp 42) (.tmp 43) rfl rfl rfl HO.out HV.out HN5.out (by simp) ?_; intro v' w6 ho2 hg2 hv2; have HR := Lib.hid (copied ho2 hg2); clear ho2 hg2 hv2)
  have HR2 := HR.out
  rw [HNU.out] at HR2
  obtain ⟨M, mc, rfl, hMem⟩ := Mem.of_own HR2.1 HNU.out
  have M6 := Lib.hid hMem
  have F6 := Lib.hid HR2.2
  clear hMem HR2 HR HO HV HN5 HUS HNU
  go_wp2
  go_loopw [12] (fun i wr => ∃ (k : Nat) (m : List UInt8), k ≤ N ∧ i = .int .i64 k ∧ Hid (Mem wr W5.heap.size M n mc m) ∧ Hid (Ag L k m bs) ∧ Hid (Below W5.heap.size W5 wr)) (fun i _ => N - (intOf i).toNat)
  case atStart => exact ⟨0, os, by omega, rfl, M6, Lib.hid (Ag.zero _ _ _), F6⟩
  case round =>
    clear M6 F6
    obtain ⟨k, m, hk, rfl, hM, hG, hF⟩ := hrel
    by_cases hlt : k < N
    · have hlt' : decide (k < N) = true := by simpa using hlt
      obtain ⟨hX, -⟩ | ⟨g, xc', hX, -, -, hcs⟩ := own_words (own_later O5.out hF.out)
      · omega
      injection hX with hX1 hX2 hX3
      subst hX1
      have hc := hcs k hlt
      have hp := HLL.out.2 (L.getD k 0) (by
        have hkL : k < L.length := by rw [HNL.out]; exact hlt
        rw [List.getD_eq_getElem?_getD, List.getElem?_eq_getElem hkL]
        exact List.getElem_mem hkL)
      obtain ⟨z, hz⟩ : ∃ z : Nat, L.getD k 0 = z := ⟨(L.getD k 0).toNat, by omega⟩
      rw [hz] at hc hp
      have HZ := Lib.hid hz
      have hzn : z + 4 ≤ n := by omega
      have hd10 : decide ((n : Int) < (z : Int) + 4) = false := by simp; omega
      obtain ⟨gA, oA, rfl, -, -, hbc⟩ := by_at (HBS.out _ (below_then B5.out hF.out)) HNB.out (by omega)
      obtain ⟨G, rfl, hm1, hm2, hm3, hm4⟩ := hM.out.2 (by omega)
      have HWB := Lib.hid hm4
      have HGE := Lib.hid hm3
      have HML := Lib.hid hM.out.1
      clear hcs hbc hm3 hm4 hz hp hX2 hX3 hM
      go_wp2
      go_loopw [14] (fun j wr2 => ∃ (d : Nat) (m2 : List UInt8), d ≤ 4 ∧ j = .int .i64 ((z : Int) + d) ∧ Hid (m2.length = n) ∧ Hid (Wb wr2 G m2) ∧ Hid (Ag L k m2 bs) ∧ Hid (∀ e, e < d → m2.getD (z + e) 0 = bs.getD (z + e) 0) ∧ Hid (Below W5.heap.size W5 wr2)) (fun j _ => (4 + z - intOf j).toNat)
      case atStart => exact ⟨0, m, by omega, by simp, HML, HWB, hG, Lib.hid (fun e he => absurd he (Nat.not_lt_zero e)), hF⟩
      case round =>
        clear HML HWB hG hF hc
        obtain ⟨d, m2, hd4, rfl, hML, hWB, hG, hD, hF⟩ := hrel
        by_cases hd : d < 4
        · have hd' : decide ((z : Int) + d < (z : Int) + 4) = true := by simp; omega
          obtain ⟨g3, o3, e3, -, -, hbc⟩ := by_at (HBS.out _ (below_then B5.out hF.out)) HNB.out (by omega)
          injection e3 with e3
          injection e3 with e31 e32
          subst e31 e32
          have cA := hbc (z + d) (by omega)
          have cG := hWB.out.cell (k := z + d) (by rw [hML.out]; omega)
          have fG := hWB.out.free (z + d)
          have WB2 := Lib.hid (hWB.out.set (k := z + d) (bs.getD (z + d) 0))
          have ML2 := Lib.hid (show (m2.set (z + d) (bs.getD (z + d) 0)).length = n by rw [List.length_set]; exact hML.out)
          have G2 := Lib.hid (hG.out.set (i := z + d))
          have D2 := Lib.hid (show ∀ e, e < d + 1 → (m2.set (z + d) (bs.getD (z + d) 0)).getD (z + e) 0 = bs.getD (z + e) 0 from fun e he => by
            by_cases he' : e = d
            · subst he'; exact ag_at (by rw [hML.out]; omega)
            · exact ag_keep (hD.out e (by omega)))
          have F2 := Lib.hid (hF.out.setCell (p := ⟨G, z + d, none⟩) HGE.out (.int .u8 (bs.getD (z + d) 0).toNat))
          clear hbc hML hWB hG hD hF
          generalize m2.set (z + d) (bs.getD (z + d) 0) = m3 at *
          generalize ((bs.getD (z + d) 0).toNat : Int) = b1 at *
          generalize ((m2.getD (z + d) 0).toNat : Int) = b2 at *
          go_wp2
          go_roundw
          case rel => exact ⟨d + 1, m3, by omega, by go_num, ML2, WB2, G2, D2, F2⟩
          case measure => simp [intOf]; omega
        · obtain rfl : d = 4 := by omega
          have hd' : decide ((z : Int) + 4 < (z : Int) + 4) = false := by simp
          have M2 := Lib.hid (show Mem _ W5.heap.size (some ⟨G, 0, none⟩) n mc m2 from ⟨hML.out, fun _ => ⟨G, rfl, hm1, hm2, HGE.out, hWB.out⟩⟩)
          have G2 := Lib.hid (hG.out.more HZ.out fun e he => hD.out e he)
          have F2 := Lib.hid hF.out
          clear hML hWB hG hD hF hd
          go_wp2
          go_roundw
          case rel => exact ⟨k + 1, m2, by omega, by go_num, M2, G2, F2⟩
          case measure => simp [intOf]; omega
    · obtain rfl : k = N := by omega
      have HW2 := Lib.hid (H2.out wr _ m hM.out.by hM.out.1 hG.out)
      have B7 := Lib.hid (below_then B5.out hF.out)
      have Q7 := Lib.hid (Q5.out.below hF.out)
      have L7 := Lib.hid (L5.out.below hF.out)
      have O7 := Lib.hid (own_later O5.out hF.out)
      have c1 := Q7.out.c0
      clear hM hG hF B5 Q5 L5 O5 H2 hlt hk
      go_upto_region 17 with (go_at_call 9; (with_reducible refine HW2.out.mono ?_); rintro e w8 ⟨y, rfl, ho, hb⟩; have P8 := Lib.hid ho; have B8 := Lib.hid (below_then B7.out hb); have L8 := Lib.hid (L7.out.below hb); have O8 := Lib.hid (own_later O7.out hb); clear ho hb)
      have hb := below_one w8 (.cells #[.int .u32 rb, .int .i64 rg] 26)
      have L9 := Lib.hid (L8.out.below hb)
      have M9 := Lib.hid (Pk.new w8 rb rg)
      have B9 := Lib.hid (below_then B8.out hb)
      have O9 := Lib.hid (own_later O8.out hb)
      have P9 := Lib.hid (own_later P8.out hb)
      clear hb c1
      generalize World.alloc w8 _ = W9 at L9 M9 B9 O9 P9 ⊢
      generalize w8.heap.size = s2 at *
      clear B7 Q7 L7 O7 HW2 P8 B8 L8 O8
      have HW := Lib.hid (words_same O9.out P9.out (by omega))
      have c0 := L9.out.c0
      have c1 := L9.out.c1
      have d0 := M9.out.c0
      have d1 := M9.out.c1
      have hk2 : decide ((k : Int) ≤ 2) = true := by simp; omega
      clear O9 P9
      go_wp2_with (first | (go_at_call 11; (with_reducible refine HW.out.mono ?_); rintro e w10 ⟨rfl, hdr⟩; have B10 := Lib.hid (below_then B9.out (below_dr hdr)); clear hdr) | (go_at_call 8; (with_reducible refine (HA.out _).mono ?_); rintro e w11 ⟨rfl, hb⟩; have B11 := Lib.hid (below_then B10.out hb); clear hb))
      go_ret
      exact ⟨rfl, B11.out⟩
set_option maxHeartbeats 1600000 in
theorem two_off {w : World} (va a : Int) (A C : Option Addr) (n m ca cc : Nat) (hl : 1024 < n ∨ m ≠ n) :
    Calls Try.prog 6 #[.slice A n ca, .slice C m cc, QV va a] w fun e w' => e = .returned (.bool true) ∧ Below w.heap.size w w' := by
  have HA := Lib.hid awake_any
  have B0 := Lib.hid (below_one w (.cells #[.int .u32 va, .int .i64 a] 37))
  unfold QV
  by_cases h1 : 1024 < n
  · have hd : decide (1024 < (n : Int)) = true := by simp; omega
    clear hl
    go_enter Try.func6, Try.ntmps6
    go_upto_region 1 with fail
    generalize World.alloc w _ = W0 at B0 ⊢
    go_wp2_with (go_at_call 8; (with_reducible refine (HA.out _).mono ?_); rintro e w6 ⟨rfl, hb⟩; have B6 := Lib.hid (below_then B0.out hb); clear hb)
    go_ret
    exact ⟨rfl, B6.out⟩
  · have hd : decide (1024 < (n : Int)) = false := by simp; omega
    have hne : ((m : Int) != n) = true := by simp; omega
    clear hl
    go_enter Try.func6, Try.ntmps6
    go_upto_region 1 with fail
    generalize World.alloc w _ = W0 at B0 ⊢
    go_wp2_with (go_at_call 8; (with_reducible refine (HA.out _).mono ?_); rintro e w6 ⟨rfl, hb⟩; have B6 := Lib.hid (below_then B0.out hb); clear hb)
    go_ret
    exact ⟨rfl, B6.out⟩
theorem two_walk {w : World} {v u : Value} {bs os : List UInt8} (va a : Int) (hv : ByR w v bs) (hu : ByR w u os) (a0 : 0 ≤ va) (a1 : va < 4294967296) (g0 : -9223372036854775808 ≤ a) (g1 : a < 9223372036854775808) :
    Calls Try.prog 6 #[v, u, QV va a] w fun e w' => e = .returned (.bool true) ∧ Below w.heap.size w w' := by
  by_cases h : bs.length ≤ 1024 ∧ os.length = bs.length
  · exact two_on va a hv hu rfl h.2 h.1 a0 a1 g0 g1
  · obtain ⟨A, ca, rfl⟩ := by_form hv
    obtain ⟨C, cc, rfl⟩ := by_form hu
    exact two_off va a A C _ _ ca cc (by omega)
end Go.Proofs.Ytbeenmglgdhbjaa
