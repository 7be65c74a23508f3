/-
  The theorem of memory: it returns true for every memory, location and number, and leaves all that was in memory as it was.
-/
import Derived.Test.YtdkpigfhdiopmaaLsC
namespace Go.Proofs.Ytdkpigfhdiopmaa
open Go.RowKit Go.Maps S01
/-- What a location that is there gives. -/
theorem keeps_facts {bs : List UInt8} {z q : Nat} (y : Nat) (h : z + q ≤ bs.length) (hq : q = 1 ∨ q = 2 ∨ q = 4) :
    MM.wt bs z q y = MM.wr bs z q y ∧ (MM.wr bs z q y).length = bs.length ∧ MM.rd (MM.wr bs z q y) z q = BM.zx y (8 * (q : Int)) ∧
    (MM.rd (MM.wr bs z q y) z q = MM.rd bs z q → MM.wr bs z q y = bs) ∧ MM.wt (MM.wr bs z q y) z q (MM.rd bs z q).toNat = bs := by
  have hc : MM.ck bs.length z q = 0 := ck_yes (by omega)
  have hl := MM.wr_len (m := bs) y h
  have hr : MM.rd bs z q = (MM.nb (MM.seg bs z q) : Int) := by
    unfold MM.rd
    rw [if_pos hc]; rfl
  have hr2 : MM.rd (MM.wr bs z q y) z q = ((y % 2 ^ (8 * q) : Nat) : Int) := by
    unfold MM.rd
    rw [hl, if_pos hc]
    show ((MM.nb (MM.seg (MM.wr bs z q y) z q) : Nat) : Int) = _
    rw [MM.seg_wr y h, MM.nb_vB]
  refine ⟨?_, hl, ?_, fun e => ?_, ?_⟩
  · unfold MM.wt
    rw [if_pos hc]; rfl
  · rw [hr2, MM.zx_mod y q (by omega)]
  · rw [hr2, hr] at e
    exact MM.wr_same y h (by omega)
  · unfold MM.wt
    rw [hl, if_pos hc, hr]
    show MM.wr (MM.wr bs z q y) z q (MM.nb (MM.seg bs z q)) = bs
    exact MM.wr_back y h
set_option maxHeartbeats 6400000 in
theorem keeps_in {W : World} {v : Value} {bs : List UInt8} {n z q y : Nat} (hv : ByR W v bs) (hnn : bs.length = n) (hn : n ≤ 3000) (hz : z + q ≤ n) (hq : q = 1 ∨ q = 2 ∨ q = 4) (hy : y < 4294967296) :
    Calls Try.prog 6 #[v, .agg #[.int .u32 z, .int .i64 q], .int .u32 y] W fun e w' => e = .returned (.bool true) ∧ Below W.heap.size W w' := by
  obtain ⟨A, c, rfl⟩ := by_form hv
  obtain ⟨f1, f2, f3, f4, f5⟩ := keeps_facts (bs := bs) (z := z) (q := q) y (by omega) hq
  have hck : MM.ck n z q = 0 := ck_yes (by omega)
  have hrb := rd_bd bs z q (by omega)
  have hq4 : 1 ≤ q ∧ q ≤ 4 := by omega
  have HDI := Lib.hid (fun (k i : Nat) (h : i ∈ MM.df bs (MM.wr bs z q y) k) => MM.df_in y (by omega) h)
  have HNIL := Lib.hid (MM.df_nil (a := bs) (b := MM.wr bs z q y))
  rw [f2, hnn, Nat.max_self] at HNIL
  have HV := Lib.hid hv
  have HCK := Lib.hid (fun w => check_any A n c z q w (by unfold maxLen; omega) (by omega) (by omega))
  have HR1 := Lib.hid (fun (w : World) (h : Below W.heap.size W w) => read_any (z : Int) q (hv.below h) (by rw [hnn]; unfold maxLen; omega) (by omega) (by omega))
  have HW1 := Lib.hid (fun (w : World) (h : Below W.heap.size W w) => write_any (z : Int) q y (hv.below h) (by omega) (by omega) (by omega))
  have HR2 := Lib.hid (fun (w : World) (x : Value) (h : ByR w x (MM.wr bs z q y)) => read_any (z : Int) q h (by rw [f2, hnn]; unfold maxLen; omega) (by omega) (by omega))
  have HDF := Lib.hid (fun (w : World) (x : Value) (hb : Below W.heap.size W w) (h : ByR w x (MM.wr bs z q y)) => diff_any (hv.below hb) h (by omega) (by omega))
  have HW2 := Lib.hid (fun (w : World) (x : Value) (h : ByR w x (MM.wr bs z q y)) => write_any (z : Int) q (MM.rd bs z q).toNat h (by omega) (by omega) (by omega))
  have HZX := Lib.hid (fun w => zext_any y (8 * (q : Int)) w (by omega) (by omega))
  rw [hnn] at HR1 HW1 HV ⊢
  rw [f1, hck] at HW1
  rw [f2, hnn, hck] at HR2
  rw [f2, hnn, Nat.max_self] at HDF
  rw [hck] at HCK HR1
  rw [f5, f2, hnn, hck, show (((MM.rd bs z q).toNat : Nat) : Int) = MM.rd bs z q by omega] at HW2
  rw [← f3] at HZX
  have HSAME := Lib.hid f4
  have HTL := Lib.hid (f2.trans hnn)
  have HNN := Lib.hid hnn
  clear hv f1 f2 f3 f5 hck hq
  generalize MM.wr bs z q y = T at *
  generalize MM.rd T z q = r1 at *
  generalize MM.rd bs z q = r0 at *
  obtain ⟨D, hD⟩ : ∃ D, (MM.df bs T n).length = D := ⟨_, rfl⟩
  have hD2 : D ≤ 3000 := by have := MM.df_len bs T n; omega
  have HDL := Lib.hid hD
  have HD0 := Lib.hid (show r1 = r0 → D = 0 by
    intro e
    have h1 := HSAME.out e
    have h2 := HNIL.out.2 h1.symm
    rw [h2] at hD
    exact hD.symm)
  clear hD f4 hnn
  go_enter Try.func6, Try.ntmps6
  go_upto_region 1 with fail
  obtain ⟨W1, hW1, hb, c0, c1⟩ := boxed W z q
  have HB := Lib.hid hb
  have HC := Lib.hid (And.intro c0 c1)
  rw [hW1]
  clear hW1 hb
  go_upto_region 5 with (first
    | (go_at_call 11; refine (HCK.out _).mono ?_; rintro e w2 ⟨rfl, rfl⟩)
    | (go_at_call 14; refine (HR1.out _ HB.out).mono ?_; rintro e w2 ⟨rfl, rfl⟩)
    | (go_at_call 16; refine (HW1.out _ HB.out).mono ?_; rintro e w2 ⟨v2, rfl, hy2, hb2⟩; have HY2 := Lib.hid hy2; have HB2 := Lib.hid hb2; clear hy2 hb2))
  clear c0 c1
  obtain ⟨c0, c1⟩ := And.intro (cell_below HB2.out HC.out.1) (cell_below HB2.out HC.out.2)
  have HB3 := Lib.hid (below_then HB.out HB2.out)
  go_upto_region 9 with (first
    | (go_at_call 14; refine (HR2.out _ _ HY2.out).mono ?_; rintro e w3 ⟨rfl, rfl⟩)
    | (go_at_call 19; refine (HDF.out _ _ HB3.out HY2.out).mono ?_; rintro e w3 ⟨v3, rfl, ho3, hb3⟩; rw [HDL.out] at ho3; have HO3 := Lib.hid ho3; have HB4 := Lib.hid hb3; clear ho3 hb3))
  clear c0 c1
  have HC3 := Lib.hid (And.intro (cell_below HB4.out (cell_below HB2.out HC.out.1)) (cell_below HB4.out (cell_below HB2.out HC.out.2)))
  have HB5 := Lib.hid (below_then HB3.out HB4.out)
  have HY3 := Lib.hid (HY2.out.below HB4.out)
  clear HC HB HB2 HB3 HB4 HY2 HCK HR1 HW1 HDF
  obtain ⟨L3, k3, rfl⟩ := own_slice HO3.out
  have HOC := Lib.hid (show ∀ j, j < D → ∃ g d, L3 = some ⟨g, 0, none⟩ ∧ w3.cell? ⟨g, j, none⟩ = some (.int .i64 (d : Nat)) ∧ z ≤ d ∧ d < z + q by
    intro j hj
    rcases own_ints HO3.out with ⟨h0, -⟩ | ⟨g, cap, e, -, -, hc⟩
    · omega
    · injection e with e1 e2 e3
      subst e1
      have hjl : j < (MM.df bs T n).length := by rw [HDL.out]; exact hj
      have hm := HDI.out n ((MM.df bs T n).getD j 0) (by rw [List.getD_eq_getElem?_getD, List.getElem?_eq_getElem hjl]; exact List.getElem_mem hjl)
      exact ⟨g, _, rfl, hc j hj, hm⟩)
  clear HDI
  go_wp2
  go_loopw [14] (fun i wr => ∃ k : Nat, k ≤ D ∧ i = .int .i64 k ∧ Hid (Dr w3 wr)) (fun i _ => D - (intOf i).toNat)
  case atStart => exact ⟨0, by omega, rfl, Lib.hid (Dr.refl _)⟩
  case round =>
    obtain ⟨k, hk, rfl, hdr⟩ := hrel
    have c0 := (hdr.out.cell _).trans HC3.out.1
    have c1 := (hdr.out.cell _).trans HC3.out.2
    by_cases hlt : k < D
    · obtain ⟨g, d, rfl, z1, d1, d2⟩ := HOC.out k hlt
      replace z1 := (hdr.out.cell _).trans z1
      have q1 : decide ((d : Int) < z) = false := by simp; omega
      have q2 : decide ((z : Int) + q ≤ d) = false := by simp; omega
      have q3 : decide (d < z) = false := by simp; omega
      have q4 : decide (z + q ≤ d) = false := by simp; omega
      have q5 : IntKind.i64.wrap (z : Int) = z := IntWalk.i64_in _ (by omega)
      have q6 : IntKind.i64.wrap ((z : Int) + q) = (z : Int) + q := IntWalk.i64_in _ (by omega)
      go_wp2
      go_quiet (fail)
      go_wp2
      go_roundw
      case rel => exact ⟨k + 1, by omega, by go_num, Lib.hid (hdr.out.more _)⟩
      case measure => simp [intOf]; omega
    · have hlt' : decide (k < D) = false := by simpa using hlt
      have HB6 := Lib.hid (below_then HB5.out hdr.out.below)
      have HY4 := Lib.hid (HY3.out.below hdr.out.below)
      have HCW := Lib.hid (And.intro c0 c1)
      clear hlt hdr
      go_upto_region 15 with (go_at_call 16; refine (HW2.out _ _ HY4.out).mono ?_; rintro e w4 ⟨v4, rfl, hy5, hb5⟩; have HY5 := Lib.hid hy5; have HB7 := Lib.hid hb5; clear hy5 hb5)
      clear c0 c1
      have c1 := cell_below HB7.out HCW.out.2
      have HB8 := Lib.hid (below_then HB6.out HB7.out)
      by_cases hr : r1 = r0
      · have hD0 : D = 0 := HD0.out hr
        subst hD0
        have p1 : (r1 != r0) = false := by simpa using hr
        have p2 : (r1 == r0) = true := by simpa using hr
        clear hr
        go_wp2_with (first
          | (go_at_call 20; refine (HZX.out _).mono ?_; rintro e w5 ⟨rfl, rfl⟩)
          | (go_at_call 18; refine (same_yes HY5.out (HV.out.below HB8.out) (by have := HNN.out; omega)).mono ?_; rintro e w5 ⟨rfl, hb9⟩; have HB9 := Lib.hid (below_then HB8.out hb9); clear hb9)
          | (go_at_call 8; refine (awake_any _).mono ?_; rintro e w6 ⟨rfl, hb10⟩; have HB10 := Lib.hid (below_then HB9.out hb10); clear hb10))
        go_ret
        exact ⟨rfl, HB10.out⟩
      · have p1 : (r1 != r0) = true := by simpa using hr
        have p2 : (r1 == r0) = false := by simpa using hr
        clear hr
        go_wp2_with (first
          | (go_at_call 20; refine (HZX.out _).mono ?_; rintro e w5 ⟨rfl, rfl⟩)
          | (go_at_call 18; refine (same_yes HY5.out (HV.out.below HB8.out) (by have := HNN.out; omega)).mono ?_; rintro e w5 ⟨rfl, hb9⟩; have HB9 := Lib.hid (below_then HB8.out hb9); clear hb9)
          | (go_at_call 8; refine (awake_any _).mono ?_; rintro e w6 ⟨rfl, hb10⟩; have HB10 := Lib.hid (below_then HB9.out hb10); clear hb10))
        go_ret
        exact ⟨rfl, HB10.out⟩
set_option maxHeartbeats 3200000 in
theorem keeps_walk {W : World} {v : Value} {bs : List UInt8} (x s u : Int) (hv : ByR W v bs) (hn : bs.length ≤ maxLen) (h0 : 0 ≤ x) (hx : x < 4294967296) (hu0 : 0 ≤ u) (hu : u < 4294967296) :
    Calls Try.prog 6 #[v, .agg #[.int .u32 x, .int .i64 s], .int .u32 u] W fun e w' => e = .returned (.bool true) ∧ Below W.heap.size W w' := by
  by_cases hok : bs.length ≤ 3000 ∧ MM.ck bs.length x s = 0
  · obtain ⟨h1, h2⟩ := ck_open hok.2
    obtain ⟨z, rfl⟩ : ∃ z : Nat, x = z := ⟨x.toNat, by omega⟩
    obtain ⟨q, rfl⟩ : ∃ q : Nat, s = q := ⟨s.toNat, by omega⟩
    obtain ⟨y, rfl⟩ : ∃ y : Nat, u = y := ⟨u.toNat, by omega⟩
    exact keeps_in hv rfl hok.1 (by omega) (by omega) (by omega)
  · obtain ⟨A, c, rfl⟩ := by_form hv
    obtain ⟨n, hnn⟩ : ∃ n, bs.length = n := ⟨_, rfl⟩
    rw [hnn] at hn hok ⊢
    have hm : n ≤ 9223372036854775807 := hn
    by_cases hbig : (3000 : Int) < n
    · clear hok hv
      go_enter Try.func6, Try.ntmps6
      go_wp2_with (go_at_call 8; refine (awake_any _).mono ?_; rintro e w1 ⟨rfl, hb1⟩; have HB1 := Lib.hid (below_then (below_one W _) hb1); clear hb1)
      go_ret
      exact ⟨rfl, HB1.out⟩
    · have HC := Lib.hid (fun w => check_any A n c x s w hn h0 hx)
      have h9 : MM.ck n x s = 9 := by
        rcases ck_two n x s with h | h
        · exact absurd ⟨by omega, h⟩ hok
        · exact h
      rw [h9] at HC
      clear hok hv h9
      go_enter Try.func6, Try.ntmps6
      go_wp2_with (first
        | (go_at_call 11; refine (HC.out _).mono ?_; rintro e w2 ⟨rfl, rfl⟩)
        | (go_at_call 8; refine (awake_any _).mono ?_; rintro e w1 ⟨rfl, hb1⟩; have HB1 := Lib.hid (below_then (below_one W _) hb1); clear hb1))
      go_ret
      exact ⟨rfl, HB1.out⟩
end Go.Proofs.Ytdkpigfhdiopmaa
