/-
  What the small functions answer: a segment's end, sums of bytes, digits. No condition but lengths.
  What Right answers: whether an image may be, and why not. No condition but lengths.
  What the reference's Right answers, and the law's light: an image that is not too much. No condition but lengths.
  A strings.Builder that a call has made, and what digits answers: bytes, two digits each. No condition but lengths, and that the library's table is as its text lays it.
  Bytes that are appended to a row of one's own, whoever owns them, none or some. No condition but lengths.
-/
import Derived.Test.YtcilhippjiichaaDoorGe
import Derived.Test.YtcilhippjiichaaDoorBase
import Derived.Deep.QuietTactic
import Derived.BigQuiet
import Derived.Test.YtcilhippjiichaaDoorShelf
import Derived.RegionTactic

/-! WalkA -/
namespace Go.Proofs.YtcilhippjiichaaDoor
open Go.RowKit Go.Maps S02
theorem end_any (a n c : Nat) (A : Option Addr) (w : World) (ha : a < 4294967296) (hn : n ≤ 9223372030000000000) :
    Calls Tryd.prog 24 #[.agg #[.int .u32 a, .slice A n c]] w fun e w' => e = .returned (.int .i64 (a + n : Nat)) ∧ Below w.heap.size w w' := by
  go_enter Tryd.func24, Tryd.ntmps24
  go_wp2
  go_ret
  exact ⟨S02.ret_int (by omega), below_one w _⟩
theorem dv_lt (c : UInt8) : decide (NM.dv c < 16) = ((decide (48 ≤ (c.toNat : Int)) && decide ((c.toNat : Int) ≤ 57)) || (decide (97 ≤ (c.toNat : Int)) && decide ((c.toNat : Int) ≤ 102))) := by
  rw [Bool.eq_iff_iff]
  simp only [decide_eq_true_eq, Bool.or_eq_true, Bool.and_eq_true]
  unfold NM.dv
  split
  · omega
  · split <;> omega
/-- A byte is one of 0 to 9 and a to f. -/
theorem dig_any (c : UInt8) (w : World) : Calls Tryd.prog 23 #[.int .u8 c.toNat] w fun e w' => e = .returned (.bool (decide (NM.dv c < 16))) ∧ w = w' := by
  go_enter Tryd.func23, Tryd.ntmps23
  go_wp2
  all_goals
    go_ret
    refine ⟨S02.ret_bool ?_, rfl⟩
    rw [dv_lt, Bool.eq_iff_iff]
    simp only [decide_eq_true_eq, Bool.or_eq_true, Bool.and_eq_true]
    try simp
    omega
theorem sum_none (A : Option Addr) (c : Nat) (w : World) : Calls Tryd.prog 18 #[.slice A 0 c] w fun e w' => e = .returned (.int .u8 0) ∧ w = w' := by
  go_enter Tryd.func18, Tryd.ntmps18
  go_wp2
  refine wp_loop_rounds 1 ?_
  rw [rounds_succ]
  go_wp2
  go_ret
  exact ⟨rfl, rfl⟩
set_option maxHeartbeats 800000 in
theorem sum_some (g o n c : Nat) (bs : List UInt8) (w : World) (hn : Hid (bs.length = n)) (hb : n ≤ 1000000) (hc : Hid (∀ j, j < n → w.cell? ⟨g, o + j, none⟩ = some (.int .u8 (bs.getD j 0).toNat))) :
    Calls Tryd.prog 18 #[.slice (some ⟨g, o, none⟩) n c] w fun e w' => e = .returned (.int .u8 (RM.ng (RM.tot bs))) ∧ w = w' := by
  go_enter Tryd.func18, Tryd.ntmps18
  go_wp2
  go_loop [3, 8] (fun t i => ∃ k m : Nat, k ≤ n ∧ i = .int .i64 k ∧ t = .int .u8 m ∧ m < 256 ∧ Hid (RM.tot (bs.take k) % 256 = m)) (fun _ i => n - (intOf i).toNat)
  case atStart => exact ⟨0, 0, by omega, rfl, rfl, by omega, rfl⟩
  case round =>
    obtain ⟨k, m, hk, rfl, rfl, hm, hM⟩ := hrel
    by_cases hlt : k < n
    · have hcell := hc.out k hlt
      have hx := (bs.getD k 0).toNat_lt
      have HT := Lib.hid (show RM.tot (bs.take (k + 1)) = RM.tot (bs.take k) + (bs.getD k 0).toNat by
        rw [List.take_succ_eq_append_getElem (by rw [hn.out]; exact hlt), RM.tot_app, List.getD_eq_getElem?_getD, List.getElem?_eq_getElem (by rw [hn.out]; exact hlt)]; simp [RM.tot])
      generalize (bs.getD k 0).toNat = x at *
      have hx' : (x : Int) < 256 := by omega
      clear hx
      go_wp2
      go_round
      case rel => exact ⟨k + 1, (m + x) % 256, by omega, by go_num, by go_num, by omega, Lib.hid (by rw [HT.out, ← hM.out]; omega)⟩
      case measure => simp [intOf]; omega
    · have HE := Lib.hid (show RM.ng (RM.tot bs) = (256 - m) % 256 by
        unfold RM.ng; rw [← hM.out, List.take_of_length_le (by rw [hn.out]; omega)])
      have hlt' : decide (k < n) = false := by simpa using hlt
      clear hlt
      go_wp2
      go_ret
      exact ⟨S02.ret_int (by rw [HE.out]; omega), rfl⟩
theorem sum_any {w : World} {v : Value} {bs : List UInt8} (h : ByR w v bs) (hl : bs.length ≤ 1000000) : Calls Tryd.prog 18 #[v] w fun e w' => e = .returned (.int .u8 (RM.ng (RM.tot bs))) ∧ w = w' := by
  rcases h with ⟨rfl, a, c, rfl⟩ | ⟨-, g, o, c, rfl, -, -, h1⟩
  · exact sum_none a c w
  · exact sum_some g o _ c bs w (Lib.hid rfl) hl (Lib.hid h1)
theorem rsum_none (A : Option Addr) (c : Nat) (w : World) : Calls Tryd.prog 19 #[.slice A 0 c] w fun e w' => e = .returned (.int .u8 0) ∧ w = w' := by
  go_enter Tryd.func19, Tryd.ntmps19
  go_wp2
  refine wp_loop_rounds 1 ?_
  rw [rounds_succ]
  go_wp2
  go_ret
  exact ⟨rfl, rfl⟩
set_option maxHeartbeats 800000 in
theorem rsum_some (g o n c : Nat) (bs : List UInt8) (w : World) (hn : Hid (bs.length = n)) (hb : n ≤ 1000000) (hc : Hid (∀ j, j < n → w.cell? ⟨g, o + j, none⟩ = some (.int .u8 (bs.getD j 0).toNat))) :
    Calls Tryd.prog 19 #[.slice (some ⟨g, o, none⟩) n c] w fun e w' => e = .returned (.int .u8 (RM.ng (RM.tot bs))) ∧ w = w' := by
  go_enter Tryd.func19, Tryd.ntmps19
  go_wp2
  go_loop [3, 4] (fun t i => ∃ k m : Nat, k ≤ n ∧ i = .int .i64 k ∧ t = .int .u8 m ∧ m < 256 ∧ Hid (RM.ng (RM.tot (bs.take k)) = m)) (fun _ i => n - (intOf i).toNat)
  case atStart => exact ⟨0, 0, by omega, rfl, rfl, by omega, Lib.hid (by rw [List.take_zero]; rfl)⟩
  case round =>
    obtain ⟨k, m, hk, rfl, rfl, hm, hM⟩ := hrel
    by_cases hlt : k < n
    · have hcell := hc.out k hlt
      have hx := (bs.getD k 0).toNat_lt
      have HT := Lib.hid (show RM.tot (bs.take (k + 1)) = RM.tot (bs.take k) + (bs.getD k 0).toNat by
        rw [List.take_succ_eq_append_getElem (by rw [hn.out]; exact hlt), RM.tot_app, List.getD_eq_getElem?_getD, List.getElem?_eq_getElem (by rw [hn.out]; exact hlt)]; simp [RM.tot])
      generalize (bs.getD k 0).toNat = x at *
      have hx' : (x : Int) < 256 := by omega
      clear hx
      go_wp2
      go_round
      case rel => exact ⟨k + 1, (m + 256 - x) % 256, by omega, by go_num, congrArg (Value.int .u8) (by omega), by omega, Lib.hid (by rw [HT.out, ← hM.out]; unfold RM.ng; omega)⟩
      case measure => simp [intOf]; omega
    · have HE := Lib.hid (show RM.ng (RM.tot bs) = m by rw [← hM.out, List.take_of_length_le (by rw [hn.out]; omega)])
      have hlt' : decide (k < n) = false := by simpa using hlt
      clear hlt
      go_wp2
      go_ret
      exact ⟨S02.ret_int (by rw [HE.out]), rfl⟩
theorem rsum_any {w : World} {v : Value} {bs : List UInt8} (h : ByR w v bs) (hl : bs.length ≤ 1000000) : Calls Tryd.prog 19 #[v] w fun e w' => e = .returned (.int .u8 (RM.ng (RM.tot bs))) ∧ w = w' := by
  rcases h with ⟨rfl, a, c, rfl⟩ | ⟨-, g, o, c, rfl, -, -, h1⟩
  · exact rsum_none a c w
  · exact rsum_some g o _ c bs w (Lib.hid rfl) hl (Lib.hid h1)
end Go.Proofs.YtcilhippjiichaaDoor
/-! WalkB -/
namespace Go.Proofs.YtcilhippjiichaaDoor
open Go.RowKit Go.Maps S02
theorem sg_at {w : World} {sa : Option Addr} {n sc : Nat} {l : List (Nat × List UInt8)} (h : SgR w (.slice sa n sc) l) {k : Nat} {a : Nat} {bs : List UInt8} (hp : l[k]? = some (a, bs)) :
    ∃ g o, sa = some ⟨g, o, none⟩ ∧ w.cell? ⟨g, o + k * 2, none⟩ = some (.int .u32 a) ∧ ∃ da dc, w.cell? ⟨g, o + k * 2 + 1, none⟩ = some (.slice da bs.length dc) ∧ ByR w (.slice da bs.length dc) bs := by
  rcases h with ⟨h, -⟩ | ⟨-, g, o, c, h, h3⟩
  · rw [h] at hp; simp at hp
  · injection h with h1 h2 h4
    obtain ⟨q1, d, q2, q3⟩ := h3 k _ hp
    obtain ⟨da, dc, rfl⟩ := by_form q3
    exact ⟨g, o, h1, q1, da, dc, q2, q3⟩
theorem rtA_step {f k : Nat} {l : List (Nat × List UInt8)} {a : Nat} {bs : List UInt8} (hp : l[k]? = some (a, bs)) : RM.rtA f (l.drop k) = if bs = [] then 1 else if 16384 < a + bs.length then 3 else if a < f then 7 else RM.rtA (a + bs.length) (l.drop (k + 1)) := by
  have hk : k < l.length := (List.getElem?_eq_some_iff.1 hp).1
  rw [List.drop_eq_getElem_cons hk, (List.getElem?_eq_some_iff.1 hp).2, RM.rtA]
set_option maxHeartbeats 2000000 in
theorem right_any {w : World} {st : Int} {sv : Value} {l : List (Nat × List UInt8)} (hs : SgR w sv l) (hn : l.length ≤ 1000000) (hd : ∀ p ∈ l, p.1 < 4294967296 ∧ p.2.length ≤ 1000000) :
    Calls Tryd.prog 14 #[.agg #[.int .u32 st, sv]] w fun e w' => e = .returned (.int .i64 (RM.rt l)) ∧ Below w.heap.size w w' := by
  obtain ⟨n, hnn⟩ : ∃ n, l.length = n := ⟨_, rfl⟩
  obtain ⟨sa, sc, rfl⟩ := sv_form hs
  rw [hnn] at hs ⊢
  have hn' : n ≤ 1000000 := by omega
  have HG := Lib.hid hs
  have HD := Lib.hid hd
  have HN := Lib.hid hnn
  clear hs hd hn hnn
  by_cases h64 : (64 : Int) < n
  · have HR := Lib.hid (show RM.rt l = 4 by unfold RM.rt; rw [if_pos (by rw [HN.out]; omega)])
    go_enter Tryd.func14, Tryd.ntmps14
    go_wp2
    go_ret
    exact ⟨S02.ret_int HR.out.symm, below_one w _⟩
  · have HR := Lib.hid (show RM.rt l = RM.rtA 0 l by unfold RM.rt; rw [if_neg (by rw [HN.out]; omega)])
    go_enter Tryd.func14, Tryd.ntmps14
    go_wp2
    go_loopw [3, 13] (fun f i wr => ∃ k fr : Nat, k ≤ n ∧ i = .int .i64 k ∧ f = .int .i64 fr ∧ fr ≤ 16384 ∧ Hid (RM.rtA 0 l = RM.rtA fr (l.drop k)) ∧ Hid (Below w.heap.size w wr)) (fun _ i _ => n - (intOf i).toNat)
    case atStart => exact ⟨0, 0, by omega, rfl, rfl, by omega, Lib.hid rfl, Lib.hid (below_one w _)⟩
    case round =>
      obtain ⟨k, fr, hk, rfl, rfl, hfr, hA, hB⟩ := hrel
      by_cases hlt : k < n
      · have hkl : k < l.length := by rw [HN.out]; exact hlt
        obtain ⟨⟨a, bs⟩, hp⟩ : ∃ p, l[k]? = some p := ⟨_, List.getElem?_eq_getElem hkl⟩
        obtain ⟨hal, hbl⟩ := HD.out (a, bs) (List.mem_of_getElem? hp)
        simp only [] at hal hbl
        have HST := Lib.hid (hA.out.trans (rtA_step hp))
        obtain ⟨g, o, rfl, z1, da, dc, z2, z3⟩ := sg_at HG.out hp
        obtain ⟨m, hm⟩ : ∃ m, bs.length = m := ⟨_, rfl⟩
        rw [hm] at z2 hbl HST
        have hm0 : bs = [] ↔ m = 0 := by rw [← hm]; exact ⟨fun h => by rw [h]; rfl, List.eq_nil_of_length_eq_zero⟩
        have HM0 := Lib.hid hm0
        replace z1 := cell_below hB.out z1
        replace z2 := cell_below hB.out z2
        have HS2 := Lib.hid (heap_alloc_new wr (.cells #[.int .u32 a, .slice da m dc] 51))
        have HB2 := Lib.hid (hB.out.alloc hB.out.size (.cells #[.int .u32 a, .slice da m dc] 51))
        clear z3 hm hm0 hp hkl
        go_upto_region 7 with fail
        obtain ⟨S, hS⟩ : ∃ S, wr.heap.size = S := ⟨_, rfl⟩
        obtain ⟨W1, hW1⟩ : ∃ W1, wr.alloc (.cells #[.int .u32 a, .slice da m dc] 51) = W1 := ⟨_, rfl⟩
        rw [hW1] at HS2 HB2 ⊢
        rw [hS] at HS2 ⊢
        clear z1 z2 hS hW1
        have s0 := cell_of (o := 0) HS2.out rfl
        have s1 := cell_of (o := 1) HS2.out rfl
        by_cases h0 : m = 0
        · have HE := Lib.hid (HR.out.trans (HST.out.trans (if_pos (HM0.out.2 h0))))
          have h0' : ((m : Int) == 0) = true := by simp [h0]
          go_wp2
          go_ret
          exact ⟨S02.ret_int HE.out.symm, HB2.out⟩
        · have h0' : ((m : Int) == 0) = false := by simp [h0]
          have HE0 := Lib.hid (HST.out.trans (if_neg (fun h => h0 (HM0.out.1 h))))
          by_cases h1 : (16384 : Int) < ((a + m : Nat) : Int)
          · have HE := Lib.hid (HR.out.trans (HE0.out.trans (if_pos (by omega))))
            go_wp2_with (go_at_call 24; refine (end_any _ _ _ _ _ hal (by omega)).mono ?_; rintro e w2 ⟨rfl, hb2⟩; have HB3 := Lib.hid (HB2.out.trans (hb2.mono HB2.out.size)); clear hb2)
            go_ret
            exact ⟨S02.ret_int HE.out.symm, HB3.out⟩
          · have HE1 := Lib.hid (HE0.out.trans (if_neg (by omega)))
            by_cases h2 : (a : Int) < fr
            · have HE := Lib.hid (HR.out.trans (HE1.out.trans (if_pos (by omega))))
              go_wp2_with (go_at_call 24; refine (end_any _ _ _ _ _ hal (by omega)).mono ?_; rintro e w2 ⟨rfl, hb2⟩; have HB3 := Lib.hid (HB2.out.trans (hb2.mono HB2.out.size)); have HS3 := Lib.hid ((hb2.block S (lt_of_heap HS2.out)).trans HS2.out); clear hb2; have t0 := cell_of (o := 0) HS3.out rfl; have t1 := cell_of (o := 1) HS3.out rfl)
              go_ret
              exact ⟨S02.ret_int HE.out.symm, HB3.out⟩
            · have HE := Lib.hid (HE1.out.trans (if_neg (by omega)))
              go_wp2_with (first
                | (go_at_call 24; refine (end_any _ _ _ _ W1 hal (by omega)).mono ?_; rintro e w2 ⟨rfl, hb2⟩; have HB3 := Lib.hid (HB2.out.trans (hb2.mono HB2.out.size)); have HS3 := Lib.hid ((hb2.block S (lt_of_heap HS2.out)).trans HS2.out); clear hb2; have t0 := cell_of (o := 0) HS3.out rfl; have t1 := cell_of (o := 1) HS3.out rfl)
                | (go_at_call 24; refine (end_any _ _ _ _ w2 hal (by omega)).mono ?_; rintro e w3 ⟨rfl, hb3⟩; have HB4 := Lib.hid (HB3.out.trans (hb3.mono HB3.out.size)); clear hb3))
              go_roundw
              case rel => exact ⟨k + 1, a + m, by omega, by go_num, by go_num, by omega, HE, HB4⟩
              case measure => simp [intOf]; omega
      · have hlt' : decide (k < n) = false := by simpa using hlt
        obtain rfl : k = n := by omega
        have HE := Lib.hid (show RM.rt l = 0 by rw [HR.out, hA.out, List.drop_of_length_le (by rw [HN.out]; omega)]; rfl)
        clear hlt
        go_wp2
        go_ret
        exact ⟨S02.ret_int HE.out.symm, hB.out⟩
end Go.Proofs.YtcilhippjiichaaDoor
/-! WalkC -/
namespace Go.Proofs.YtcilhippjiichaaDoor
open Go.RowKit Go.Maps S02
set_option maxHeartbeats 2000000 in
theorem rright_any {w : World} {st : Int} {sv : Value} {l : List (Nat × List UInt8)} (hs : SgR w sv l) (hn : l.length ≤ 1000000) (hd : ∀ p ∈ l, p.1 < 4294967296 ∧ p.2.length ≤ 1000000) :
    Calls Tryd.prog 15 #[.agg #[.int .u32 st, sv]] w fun e w' => e = .returned (.int .i64 (RM.rt l)) ∧ Below w.heap.size w w' := by
  obtain ⟨n, hnn⟩ : ∃ n, l.length = n := ⟨_, rfl⟩
  obtain ⟨sa, sc, rfl⟩ := sv_form hs
  rw [hnn] at hs ⊢
  have hn' : n ≤ 1000000 := by omega
  have HG := Lib.hid hs
  have HD := Lib.hid hd
  have HN := Lib.hid hnn
  obtain ⟨W0, hW0⟩ : ∃ W0, w.alloc (.cells #[.int .u32 st, .slice sa n sc] 25) = W0 := ⟨_, rfl⟩
  have HB0 := Lib.hid (show Below w.heap.size w W0 from hW0 ▸ below_one w _)
  have HI0 := Lib.hid (show W0.heap[w.heap.size]? = some (.cells #[.int .u32 st, .slice sa n sc] 25 (0, 0)) from hW0 ▸ heap_alloc_new w _)
  clear hs hd hn hnn
  go_enter Tryd.func15, Tryd.ntmps15
  go_upto_region 1 with fail
  have c1 := cell_of (o := 1) HI0.out rfl
  clear hW0
  by_cases h64 : (64 : Int) < n
  · have HR := Lib.hid (show RM.rt l = 4 by unfold RM.rt; rw [if_pos (by rw [HN.out]; omega)])
    go_wp2
    go_ret
    exact ⟨S02.ret_int HR.out.symm, HB0.out⟩
  · have HR := Lib.hid (show RM.rt l = RM.rtA 0 l by unfold RM.rt; rw [if_neg (by rw [HN.out]; omega)])
    go_wp2
    go_loopw [3, 4] (fun f i wr => ∃ k fr : Nat, k ≤ n ∧ i = .int .i64 k ∧ f = .int .i64 fr ∧ fr ≤ 16384 ∧ Hid (RM.rtA 0 l = RM.rtA fr (l.drop k)) ∧ Hid (Dr W0 wr)) (fun _ i _ => n - (intOf i).toNat)
    case atStart => exact ⟨0, 0, by omega, rfl, rfl, by omega, Lib.hid rfl, Lib.hid (Dr.refl _)⟩
    case round =>
      obtain ⟨k, fr, hk, rfl, rfl, hfr, hA, hB⟩ := hrel
      replace c1 := (hB.out.cell _).trans c1
      by_cases hlt : k < n
      · have hkl : k < l.length := by rw [HN.out]; exact hlt
        obtain ⟨⟨a, bs⟩, hp⟩ : ∃ p, l[k]? = some p := ⟨_, List.getElem?_eq_getElem hkl⟩
        obtain ⟨hal, hbl⟩ := HD.out (a, bs) (List.mem_of_getElem? hp)
        simp only [] at hal hbl
        have HST := Lib.hid (hA.out.trans (rtA_step hp))
        obtain ⟨g, o, rfl, z1, da, dc, z2, z3⟩ := sg_at HG.out hp
        obtain ⟨m, hm⟩ : ∃ m, bs.length = m := ⟨_, rfl⟩
        rw [hm] at z2 hbl HST
        have hm0 : bs = [] ↔ m = 0 := by rw [← hm]; exact ⟨fun h => by rw [h]; rfl, List.eq_nil_of_length_eq_zero⟩
        have HM0 := Lib.hid hm0
        replace z1 := (hB.out.cell _).trans (cell_below HB0.out z1)
        replace z2 := (hB.out.cell _).trans (cell_below HB0.out z2)
        clear z3 hm hm0 hp hkl
        go_wp2
        go_quiet (fail)
        rename_i nq
        have HB2 := Lib.hid (hB.out.more nq)
        by_cases h0 : m = 0
        · have HE := Lib.hid (HR.out.trans (HST.out.trans (if_pos (HM0.out.2 h0))))
          have h0' : ((m : Int) == 0) = true := by simp [h0]
          go_wp2
          go_ret
          exact ⟨S02.ret_int HE.out.symm, HB0.out.trans (HB2.out.below.mono HB0.out.size)⟩
        · have h0' : ((m : Int) == 0) = false := by simp [h0]
          have HE0 := Lib.hid (HST.out.trans (if_neg (fun h => h0 (HM0.out.1 h))))
          by_cases h1 : (16384 : Int) < a + m
          · have HE := Lib.hid (HR.out.trans (HE0.out.trans (if_pos (by omega))))
            by_cases h1b : (16384 : Int) < m
            all_goals
              go_wp2
              go_ret
              exact ⟨S02.ret_int HE.out.symm, HB0.out.trans (HB2.out.below.mono HB0.out.size)⟩
          · have HE1 := Lib.hid (HE0.out.trans (if_neg (by omega)))
            have h1b : ¬ (16384 : Int) < m := by omega
            by_cases h2 : (a : Int) < fr
            · have HE := Lib.hid (HR.out.trans (HE1.out.trans (if_pos (by omega))))
              go_wp2
              go_ret
              exact ⟨S02.ret_int HE.out.symm, HB0.out.trans (HB2.out.below.mono HB0.out.size)⟩
            · have HE := Lib.hid (HE1.out.trans (if_neg (by omega)))
              go_wp2
              go_roundw
              case rel => exact ⟨k + 1, a + m, by omega, by go_num, by go_num, by omega, HE, HB2⟩
              case measure => simp [intOf]; omega
      · have hlt' : decide (k < n) = false := by simpa using hlt
        obtain rfl : k = n := by omega
        have HE := Lib.hid (show RM.rt l = 0 by rw [HR.out, hA.out, List.drop_of_length_le (by rw [HN.out]; omega)]; rfl)
        clear hlt
        go_wp2
        go_ret
        exact ⟨S02.ret_int HE.out.symm, HB0.out.trans (hB.out.below.mono HB0.out.size)⟩
/-- All bytes of all segments. -/
def lns : List (Nat × List UInt8) → Nat
  | [] => 0
  | p :: r => p.2.length + lns r
theorem lns_snoc (l : List (Nat × List UInt8)) (p : Nat × List UInt8) : lns (l ++ [p]) = lns l + p.2.length := by
  induction l with
  | nil => simp [lns]
  | cons x r ih => rw [List.cons_append, lns, lns, ih]; omega
def ltB (l : List (Nat × List UInt8)) : Bool := decide (l.length ≤ 70) && (l.all (fun p => decide (p.2.length ≤ 600)) && decide (lns l ≤ 3000))
theorem ltB_open {l : List (Nat × List UInt8)} (h : ltB l = true) : l.length ≤ 70 ∧ (∀ p ∈ l, p.2.length ≤ 600) ∧ lns l ≤ 3000 := by
  unfold ltB at h
  rw [Bool.and_eq_true, Bool.and_eq_true, List.all_eq_true] at h
  exact ⟨by simpa using h.1, fun p hp => by simpa using h.2.1 p hp, by simpa using h.2.2⟩
set_option maxHeartbeats 2000000 in
theorem light_any {w : World} {st : Int} {sv : Value} {l : List (Nat × List UInt8)} (hs : SgR w sv l) :
    Calls Tryd.prog 9 #[.agg #[.int .u32 st, sv]] w fun e w' => e = .returned (.bool (ltB l)) ∧ Below w.heap.size w w' := by
  obtain ⟨n, hnn⟩ : ∃ n, l.length = n := ⟨_, rfl⟩
  obtain ⟨sa, sc, rfl⟩ := sv_form hs
  rw [hnn] at hs ⊢
  have HG := Lib.hid hs
  have HN := Lib.hid hnn
  obtain ⟨W0, hW0⟩ : ∃ W0, w.alloc (.cells #[.int .u32 st, .slice sa n sc] 25) = W0 := ⟨_, rfl⟩
  have HB0 := Lib.hid (show Below w.heap.size w W0 from hW0 ▸ below_one w _)
  have HI0 := Lib.hid (show W0.heap[w.heap.size]? = some (.cells #[.int .u32 st, .slice sa n sc] 25 (0, 0)) from hW0 ▸ heap_alloc_new w _)
  clear hs hnn
  go_enter Tryd.func9, Tryd.ntmps9
  go_upto_region 1 with fail
  have c1 := cell_of (o := 1) HI0.out rfl
  clear hW0
  by_cases h70 : (70 : Int) < n
  · have HR := Lib.hid (show ltB l = false by unfold ltB; rw [decide_eq_false (by rw [HN.out]; omega)]; rfl)
    go_wp2
    go_ret
    exact ⟨S02.ret_bool HR.out.symm, HB0.out⟩
  · have HL := Lib.hid (show decide (l.length ≤ 70) = true by rw [decide_eq_true_eq, HN.out]; omega)
    have hn70 : n ≤ 70 := by omega
    go_wp2
    go_loop [3, 4] (fun t i => ∃ k m : Nat, k ≤ n ∧ i = .int .i64 k ∧ t = .int .i64 m ∧ m ≤ 600 * k ∧ Hid (lns (l.take k) = m) ∧ Hid ((l.take k).all (fun p => decide (p.2.length ≤ 600)) = true)) (fun _ i => n - (intOf i).toNat)
    case atStart => exact ⟨0, 0, by omega, rfl, rfl, by omega, Lib.hid rfl, Lib.hid rfl⟩
    case round =>
      obtain ⟨k, q, hk, rfl, rfl, hq, hQ, hA⟩ := hrel
      by_cases hlt : k < n
      · have hkl : k < l.length := by rw [HN.out]; exact hlt
        obtain ⟨⟨a, bs⟩, hp⟩ : ∃ p, l[k]? = some p := ⟨_, List.getElem?_eq_getElem hkl⟩
        have HTK := Lib.hid (show l.take (k + 1) = l.take k ++ [(a, bs)] by rw [List.take_succ_eq_append_getElem hkl, List.getElem_eq_iff hkl |>.2 hp])
        obtain ⟨g, o, rfl, z1, da, dc, z2, z3⟩ := sg_at HG.out hp
        obtain ⟨m, hm⟩ : ∃ m, bs.length = m := ⟨_, rfl⟩
        have HMM := Lib.hid (List.mem_of_getElem? hp)
        have HM := Lib.hid hm
        rw [hm] at z2
        replace z2 := cell_below HB0.out z2
        clear z1 z3 hm hp hkl
        by_cases h6 : (600 : Int) < m
        · have HE := Lib.hid (show ltB l = false by
            unfold ltB
            rw [show l.all (fun p => decide (p.2.length ≤ 600)) = false by
              rw [List.all_eq_false]
              exact ⟨_, HMM.out, by simp only [HM.out]; simp; omega⟩]
            rw [Bool.false_and, Bool.and_false])
          go_wp2
          go_ret
          exact ⟨S02.ret_bool HE.out.symm, HB0.out⟩
        · have h6' : m ≤ 600 := by omega
          go_wp2
          go_round
          case rel => exact ⟨k + 1, q + m, by omega, by go_num, by go_num, by omega, Lib.hid (by rw [HTK.out, lns_snoc, hQ.out]; simp only [HM.out]), Lib.hid (by rw [HTK.out, List.all_append, hA.out]; simp only [List.all_cons, List.all_nil, HM.out]; simpa using h6')⟩
          case measure => simp [intOf]; omega
      · have hlt' : decide (k < n) = false := by simpa using hlt
        obtain rfl : k = n := by omega
        have HF := Lib.hid (show l.take k = l by rw [← HN.out, List.take_length])
        have HE := Lib.hid (show ltB l = decide ((q : Int) ≤ 3000) by
          unfold ltB
          have e1 := hQ.out
          have e2 := hA.out
          rw [HF.out] at e1 e2
          rw [HL.out, e2, e1, Bool.true_and, Bool.true_and]
          exact decide_eq_decide.2 (by omega))
        clear hlt
        go_wp2
        all_goals
          go_ret
          exact ⟨S02.ret_bool (by rw [HE.out]; try simp [*]), HB0.out⟩
end Go.Proofs.YtcilhippjiichaaDoor
/-! WalkD -/
namespace Go.Proofs.YtcilhippjiichaaDoor
open Go.RowKit Go.Maps S02
theorem by_at {w : World} {A : Option Addr} {n c : Nat} {bs : List UInt8} (h : ByR w (.slice A n c) bs) {j : Nat} (hj : j < bs.length) : ∃ g o, A = some ⟨g, o, none⟩ ∧ n = bs.length ∧ bs.length ≤ c ∧ c ≤ maxLen ∧ ∀ i, i < bs.length → w.cell? ⟨g, o + i, none⟩ = some (.int .u8 (bs.getD i 0).toNat) := by
  rcases h with ⟨rfl, -⟩ | ⟨-, g, o, c', h, h1, h2, h3⟩
  · simp at hj
  · injection h with e1 e2 e3
    subst e1 e3
    exact ⟨g, o, rfl, e2, h1, h2, h3⟩
theorem take_more {α : Type} {l : List α} {k : Nat} {p : α} (h : l[k]? = some p) : l.take (k + 1) = l.take k ++ [p] := by
  have hk : k < l.length := (List.getElem?_eq_some_iff.1 h).1
  rw [List.take_succ_eq_append_getElem hk, List.getElem_eq_iff hk |>.2 h]
theorem getD_some {l : List UInt8} {k : Nat} (h : k < l.length) : l[k]? = some (l.getD k 0) := by
  rw [List.getD_eq_getElem?_getD, List.getElem?_eq_getElem h]; rfl
theorem ownF_keep {w w' : World} {B e size n : Nat} {v : Value} {xs : List Value} (h : w.ownsRowF B e size v n xs) (hb : ∀ k, v.ownBlock = some k → w'.heap[k]? = w.heap[k]?) : w'.ownsRowF B e size v n xs := by
  refine ⟨h.1, ?_⟩
  rcases h.2 with h' | ⟨g, cap, cur, fz, rfl, h1, h2, h3⟩
  · exact .inl h'
  · exact .inr ⟨g, cap, cur, fz, rfl, h1, (hb g rfl).trans h2, h3⟩
theorem bdF_keep {T e B b : Nat} {bs : List Value} {w w' : World} (h : Lib.IsBuilderF T e B b bs w) (hb : Below w.heap.size w w') : Lib.IsBuilderF T e B b bs w' := by
  have key : ∀ p, Lib.BuilderAtF T e B b p bs w → Lib.BuilderAtF T e B b p bs w' := fun p ⟨h1, v, h2, h3, h4⟩ =>
    ⟨h1, v, (hb.block _ (lt_of_heap h2)).trans h2, ownF_keep h3 fun k hk => hb.block _ (h3.lt k hk).2, h4⟩
  exact h.elim (fun x => .inl (key _ x)) (fun x => .inr (key _ x))
theorem bdF_lt {T e B b : Nat} {bs : List Value} {w : World} (h : Lib.IsBuilderF T e B b bs w) : b < w.heap.size := h.elim Lib.BuilderAtF.lt Lib.BuilderAtF.lt
/-- A builder in block b that holds bytes; what was there before is as it was. -/
def Bd (N b : Nat) (w0 w : World) (l : List UInt8) : Prop := Lib.IsBuilderF 55 5 b b (Lib.byteCells l) w ∧ Below N w0 w
theorem Bd.new (w : World) : Bd w.heap.size w.heap.size w (w.alloc (.cells #[.pointer none, .slice none 0 0] 55)) [] :=
  ⟨.inl ⟨Nat.le_refl _, _, heap_alloc_new w _, World.ownsRowF_nil _ _ _ _, by simp [Value.ownBlock]⟩, below_one w _⟩
theorem Bd.below {N b : Nat} {w0 w w' : World} {l : List UInt8} (h : Bd N b w0 w l) (hb : Below w.heap.size w w') (hN : N ≤ w.heap.size) : Bd N b w0 w' l := ⟨bdF_keep h.1 hb, h.2.trans (hb.mono hN)⟩
theorem bd_write {b : Nat} {w : World} {l : List UInt8} (s : ByteArray) (h : Lib.IsBuilderF 55 5 b b (Lib.byteCells l) w) (hl : l.length + s.size ≤ 100000000) :
    Calls Tryd.prog 25 #[.pointer (some ⟨b, 0, none⟩), .string s] w fun e w' => e = .returned (.tuple #[.int .i64 s.size, .nilIface]) ∧ Lib.IsBuilderF 55 5 b b (Lib.byteCells (l ++ s.data.toList)) w' ∧ Below b w w' ∧ Lib.OthersKept 5 (some b) w w' :=
  (Tryd.Builder_WriteString_k b b _ s w h (by rw [Lib.byteCells_length]; omega) (Nat.le_of_lt (bdF_lt h))).mono fun e w' ⟨he, h1, h2, h3⟩ => ⟨he, .inr (by rw [Lib.byteCells_append, ← Lib.strCells_eq]; exact h1), h2, h3⟩
theorem bd_string {b : Nat} {w : World} {l : List UInt8} (h : Lib.IsBuilderF 55 5 b b (Lib.byteCells l) w) :
    Calls Tryd.prog 27 #[.pointer (some ⟨b, 0, none⟩)] w fun e w' => e = .returned (.string ⟨l.toArray⟩) ∧ Below b w w' :=
  (Tryd.Builder_String_any_k b b l w h (Nat.le_of_lt (bdF_lt h))).mono fun _e _w' ⟨he, _, h2, _⟩ => ⟨he, h2⟩
theorem hxs_two (u : Nat) : (NM.hxs u 8).drop 6 = NM.hxs u 2 := rfl
set_option maxHeartbeats 2000000 in
theorem digits_any {w : World} {v : Value} {bs : List UInt8} (h : ByR w v bs) (hl : bs.length ≤ 1000) (ht : Tabs w) :
    Calls Tryd.prog 40 #[v] w fun e w' => e = .returned (.string ⟨(RM.dg bs).toArray⟩) ∧ Below w.heap.size w w' := by
  obtain ⟨A, c, rfl⟩ := by_form h
  obtain ⟨n, hn⟩ : ∃ n, bs.length = n := ⟨_, rfl⟩
  rw [hn] at h ⊢
  have hn' : n ≤ 1000 := by omega
  have HN := Lib.hid hn
  have HB := Lib.hid h
  have HT := Lib.hid ht
  have HS := Lib.hid (Bd.new w)
  clear h hn hl ht
  go_enter Tryd.func40, Tryd.ntmps40
  go_wp2
  go_loopw [8] (fun i wr => ∃ k : Nat, k ≤ n ∧ i = .int .i64 k ∧ Hid (Bd w.heap.size w.heap.size w wr (RM.dg (bs.take k)))) (fun i _ => n - (intOf i).toNat)
  case atStart => exact ⟨0, by omega, rfl, HS⟩
  case round =>
    obtain ⟨k, hk, rfl, hR⟩ := hrel
    clear HS
    by_cases hlt : k < n
    · have hkl : k < bs.length := by rw [HN.out]; exact hlt
      obtain ⟨g, o, rfl, -, -, -, hc⟩ := by_at HB.out hkl
      have hcell := cell_below hR.out.2 (hc k hkl)
      have HTK := Lib.hid (show RM.dg (bs.take (k + 1)) = RM.dg (bs.take k) ++ NM.hxs (bs.getD k 0).toNat 2 by rw [take_more (getD_some hkl), RM.dg_snoc])
      have hx := (bs.getD k 0).toNat_lt
      generalize (bs.getD k 0).toNat = x at *
      have hx' : (x : Int) < 256 := by omega
      obtain ⟨X, hX, hX1, hX2⟩ := bt_of (NM.hxs x 8)
      have H1 := Lib.hid (hex_any x wr (by omega) (HT.out.on hR.out.2))
      rw [hX] at H1
      rw [NM.hxs_len] at hX2
      have hX8 : (X.size : Int) = 8 := by omega
      have HX6 := Lib.hid (show (X.extract 6 X.size).data.toList = NM.hxs x 2 by
        rw [Lib.extract_data, hX1, hxs_two, List.take_of_length_le (by rw [NM.hxs_len]; omega)])
      have HXS := Lib.hid (show (X.extract 6 X.size).size = 2 by rw [← NM.len_eq, HX6.out, NM.hxs_len])
      have HL := Lib.hid (show (RM.dg (bs.take k)).length ≤ 2000 by rw [RM.dg_len, List.length_take]; omega)
      have hXs : 6 ≤ X.size ∧ X.size ≤ 8 := by omega
      obtain ⟨hXa, hXb⟩ := hXs
      clear hc hX hX1 hX2 hx hX8 hkl
      go_wp2_with (first
        | (go_at_call 39; refine H1.out.mono ?_; rintro e w2 ⟨rfl, hb2⟩; have HB2 := Lib.hid (hR.out.below hb2 hR.out.2.size); clear hb2)
        | (go_at_call 25; refine (bd_write _ HB2.out.1 (by rw [HXS.out]; have := HL.out; omega)).mono ?_; rintro e w3 ⟨rfl, h31, h32, -⟩; have HB3 := Lib.hid (show Bd w.heap.size w.heap.size w w3 (RM.dg (bs.take (k + 1))) from ⟨by rw [HTK.out, ← HX6.out]; exact h31, HB2.out.2.trans h32⟩); clear h31 h32))
      go_roundw
      case rel => exact ⟨k + 1, by omega, by go_num, HB3⟩
      case measure => simp [intOf]; omega
    · have hlt' : decide (k < n) = false := by simpa using hlt
      have HF := Lib.hid (show bs.take k = bs from List.take_of_length_le (by rw [HN.out]; omega))
      rw [HF.out] at hR
      clear hlt
      go_wp2_with (go_at_call 27; refine (bd_string hR.out.1).mono ?_; rintro e w2 ⟨rfl, hb2⟩; have HB2 := Lib.hid (hR.out.2.trans hb2); clear hb2)
      go_ret
      exact ⟨rfl, HB2.out⟩
end Go.Proofs.YtcilhippjiichaaDoor
/-! App -/
namespace Go.Proofs.YtcilhippjiichaaDoor
open Go.RowKit Go.Maps S02
theorem u8_info : (Tryd.prog.info? 5).map (fun i => (i.zero, i.size, i.bytes)) = some (some (.int .u8 0), 1, 1) := by kernel_rfl
theorem byC_len (bs : List UInt8) : (byC bs).length = bs.length := by simp [byC]
theorem byC_one (bs : List UInt8) : ∀ u ∈ byC bs, u.oneCell' = true := by
  intro u hu
  obtain ⟨b, -, rfl⟩ := List.mem_map.1 hu
  rfl
theorem byC_app (l m : List UInt8) : byC (l ++ m) = byC l ++ byC m := by simp [byC]
theorem byC_get {bs : List UInt8} {j : Nat} {u : Value} (h : (byC bs)[j]? = some u) : j < bs.length ∧ u = .int .u8 (bs.getD j 0).toNat := by
  rw [byC, List.getElem?_map, Option.map_eq_some_iff] at h
  obtain ⟨b, h1, rfl⟩ := h
  have hj : j < bs.length := (List.getElem?_eq_some_iff.1 h1).1
  rw [getD_some hj] at h1
  injection h1 with h1
  exact ⟨hj, by rw [h1]⟩
/-- What appending bytes to a row of one's own does. -/
theorem append_by (w : World) {base n : Nat} {v x : Value} {xs : List Value} {bs : List UInt8} (ty : TypeId) (own : w.ownsRow base 5 1 v n xs) (hx : ByR w x bs) (h : n + bs.length ≤ 100000000) (hbase : base ≤ w.heap.size) :
    ∃ v' w', (Builtin.append_ #[28, 28] ty #[v, x]).run Tryd.prog w = .ok v' w' ∧ w'.ownsRow base 5 1 v' (n + bs.length) (xs ++ byC bs) ∧ w.grownBy w' v.ownBlock ∧ (v'.ownBlock = v.ownBlock ∨ v'.ownBlock = some w.heap.size) := by
  obtain ⟨i, hi, hz, hs, hb⟩ := info_parts u8_info
  have hm : n + bs.length ≤ maxLen := by unfold maxLen; omega
  have some_ : ∀ (a : Addr) (c : Nat), x = .slice (some a) bs.length c → (∀ j u, (byC bs)[j]? = some u → w.cell? (a.add j) = some u) → ∃ v' w', (Builtin.append_ #[28, 28] ty #[v, x]).run Tryd.prog w = .ok v' w' ∧ w'.ownsRow base 5 1 v' (n + bs.length) (xs ++ byC bs) ∧ w.grownBy w' v.ownBlock ∧ (v'.ownBlock = v.ownBlock ∨ v'.ownBlock = some w.heap.size) := fun a c e hc => by
    subst e
    obtain ⟨v', w', h1, h2, h3, -, h4⟩ := run_append_own_at (P := Tryd.prog) w base 28 ty 5 i _ 1 1 Tryd.underlying28 hi hz hs hb rfl (by decide) v n xs own a bs.length c (byC bs) (by rw [byC_len]; omega) hc (byC_one bs) hm (by omega) hbase
    exact ⟨v', w', h1, h2, h3, h4⟩
  rcases hx with ⟨rfl, A, c, rfl⟩ | ⟨-, g, o, c, rfl, -, -, h3⟩
  · cases A with
    | some a => exact some_ a c rfl (fun j u hu => by simp [byC] at hu)
    | none =>
      refine ⟨v, w, ?_, by simpa [byC] using own, World.grownBy.refl w _, .inl rfl⟩
      rcases own.2 with ⟨rfl, rfl⟩ | ⟨g, cap, cur, rfl, -, -, hnc, -⟩
      all_goals simp [Builtin.append_, run_underlying Tryd.underlying28, sizeOf, typeInfo, hi, Builtin.lenOf, Builtin.firstCells]
      simp [hnc, storeCells]
  · refine some_ _ c rfl fun j u hu => ?_
    obtain ⟨hj, rfl⟩ := byC_get hu
    rw [Lib.add_plain]
    exact h3 j hj
section
variable {ops : Array Oper} {rest : List Oper} {o : Oper} {a : Act} {w : World} {base n : Nat} {v x : Value} {xs : List Value} {bs : List UInt8}
theorem wp_append_by {K : Act → World → Prop} {Q : Exit → Act → World → Prop} (p q : Operand) (ho : o.op = .call { callee := .builtin .append, args := #[p, q], argTypes := #[28, 28] }) (hp : a.eval p = v) (hq : a.eval q = x) (own : w.ownsRow base 5 1 v n xs) (hx : ByR w x bs) (h : n + bs.length ≤ 100000000) (hbase : base ≤ w.heap.size)
    (hK : ∀ v' w', w'.ownsRow base 5 1 v' (n + bs.length) (xs ++ byC bs) → w.grownBy w' v.ownBlock → (v'.ownBlock = v.ownBlock ∨ v'.ownBlock = some w.heap.size) → K (a.put o.dst v') w') : o.wp Tryd.prog a w K Q := by
  obtain ⟨v', w', hr, h1, h2, h3⟩ := append_by w o.type own hx h hbase
  unfold Oper.wp execOp
  simp only [ho, resolve, invoke, builtin, Sem.run_bind, Sem.run_pure, Result.andThen_ok, List.map_toArray, List.map_cons, List.map_nil, hp, hq, hr]
  exact hK v' w' h1 h2 h3
theorem wpList_append_by {Q : Exit → Act → World → Prop} (hgd : o.guard = none) (p q : Operand) (ho : o.op = .call { callee := .builtin .append, args := #[p, q], argTypes := #[28, 28] }) (hp : a.eval p = v) (hq : a.eval q = x) (own : w.ownsRow base 5 1 v n xs) (hx : ByR w x bs) (h : n + bs.length ≤ 100000000) (hbase : base ≤ w.heap.size)
    (hK : ∀ v' w', w'.ownsRow base 5 1 v' (n + bs.length) (xs ++ byC bs) → w.grownBy w' v.ownBlock → (v'.ownBlock = v.ownBlock ∨ v'.ownBlock = some w.heap.size) → wpList Tryd.prog ops Q rest (a.put o.dst v') w') : wpList Tryd.prog ops Q (o :: rest) a w :=
  wpList_plain hgd fun _ hk => wp_append_by p q ho hp hq own hx h hbase fun v' w' h1 h2 h3 => hk _ _ (hK v' w' h1 h2 h3)
theorem step_append_by {K : Act → World → Prop} {Q : Exit → Act → World → Prop} {E : Prop} (hgd : o.guard = none) (p q : Operand) (ho : o.op = .call { callee := .builtin .append, args := #[p, q], argTypes := #[28, 28] }) (hp : a.eval p = v) (hq : a.eval q = x) (own : w.ownsRow base 5 1 v n xs) (hx : ByR w x bs) (h : n + bs.length ≤ 100000000) (hbase : base ≤ w.heap.size)
    (hK : ∀ v' w', w'.ownsRow base 5 1 v' (n + bs.length) (xs ++ byC bs) → w.grownBy w' v.ownBlock → (v'.ownBlock = v.ownBlock ∨ v'.ownBlock = some w.heap.size) → K (a.put o.dst v') w') :
    if Region.wanted o (yielded ops a.tmps) = true then Oper.wp Tryd.prog o a w K Q else E := by
  rw [if_pos (by simp [Region.wanted, hgd])]
  exact wp_append_by p q ho hp hq own hx h hbase hK
end
end Go.Proofs.YtcilhippjiichaaDoor
