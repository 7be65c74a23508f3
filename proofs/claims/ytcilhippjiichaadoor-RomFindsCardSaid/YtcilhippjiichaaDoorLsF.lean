/-
  The law Finds where one digit of an image's text is another one.
-/
import Derived.Test.YtcilhippjiichaaDoorLsE
import Derived.OrdersHeld
import Derived.RegionTactic
namespace Go.Proofs.YtcilhippjiichaaDoor
open Go.RowKit Go.Maps S02
def zer : Array Value := #[.int .u32 0, .slice none 0 0]
section
variable {Q : Exit → Act → World → Prop}
theorem al_wp {o : Oper} {a : Act} {w : World} {K : Act → World → Prop} (h : o.op = .alloc 25) (hK : K (a.put o.dst (.pointer (some ⟨w.heap.size, 0, none⟩))) (w.alloc (.cells zer 25))) : o.wp Tryd.prog a w K Q := by
  obtain ⟨dst, op, type, pos, after, guard⟩ := o
  simp only [] at h
  subst h
  unfold Oper.wp
  go_simp
  exact hK
theorem exec_build (ρ : Operand → Value) (s : Operand) {c : Int} (dst : Option Tmp) (type : TypeId) (pos : String) (ed : Array Edge) (guard : Option (Nat × Bool)) (w : World) (hs : ρ s = .int .u8 c) :
    (execOp ρ { dst := dst, op := .buildSlice 28 1 #[(0, s)], type := type, pos := pos, after := ed, guard := guard }).run Tryd.prog w = .ok (.value (.slice (some ⟨w.heap.size, 0, none⟩) 1 1)) (w.alloc (.cells #[.int .u8 c] 5)) := by
  go_simp
theorem build_wp {o : Oper} {a : Act} {w : World} {K : Act → World → Prop} (s : Operand) (h : o.op = .buildSlice 28 1 #[(0, s)]) {c : Int} (hs : a.eval s = .int .u8 c) (hK : K (a.put o.dst (.slice (some ⟨w.heap.size, 0, none⟩) 1 1)) (w.alloc (.cells #[.int .u8 c] 5))) : o.wp Tryd.prog a w K Q := by
  obtain ⟨dst, op, type, pos, ed, guard⟩ := o
  simp only [] at h
  subst h
  unfold Oper.wp
  rw [exec_build a.eval s dst type pos ed guard w hs, Oper.upon_value]
  exact hK
theorem exec_conv (ρ : Operand → Value) (s : Operand) {B : Nat} {c : UInt8} (dst : Option Tmp) (type : TypeId) (pos : String) (ed : Array Edge) (guard : Option (Nat × Bool)) (w : World) (hs : ρ s = .slice (some ⟨B, 0, none⟩) 1 1) (hcv : (convert 28 9 (.slice (some ⟨B, 0, none⟩) 1 1)).run Tryd.prog w = .ok (.string ⟨#[c]⟩) w) :
    (execOp ρ { dst := dst, op := .convert 28 9 s, type := type, pos := pos, after := ed, guard := guard }).run Tryd.prog w = .ok (.value (.string ⟨#[c]⟩)) w := by
  go_simp
theorem conv_run {w : World} {B : Nat} {c : UInt8} (hc : w.cell? ⟨B, 0, none⟩ = some (.int .u8 c.toNat)) : (convert 28 9 (.slice (some ⟨B, 0, none⟩) 1 1)).run Tryd.prog w = .ok (.string ⟨#[c]⟩) w :=
  run_convert_bytes_back (P := Tryd.prog) w 28 9 5 ⟨B, 0, none⟩ 1 [c] Tryd.underlying28 Tryd.underlying5 Tryd.underlying9 (fun j hj => by
    match j, hj with
    | 0, _ => exact hc)
theorem conv_wp {o : Oper} {a : Act} {w : World} {K : Act → World → Prop} (s : Operand) (h : o.op = .convert 28 9 s) {B : Nat} {c : UInt8} (hs : a.eval s = .slice (some ⟨B, 0, none⟩) 1 1) (hc : w.cell? ⟨B, 0, none⟩ = some (.int .u8 c.toNat)) (hK : K (a.put o.dst (.string ⟨#[c]⟩)) w) : o.wp Tryd.prog a w K Q := by
  obtain ⟨dst, op, type, pos, ed, guard⟩ := o
  simp only [] at h
  subst h
  unfold Oper.wp
  rw [exec_conv a.eval s dst type pos ed guard w hs (conv_run hc), Oper.upon_value]
  exact hK
theorem exec_call20 (ρ : Operand → Value) (s : Operand) (dst : Option Tmp) (type : TypeId) (pos : String) (ed : Array Edge) (guard : Option (Nat × Bool)) (w : World) (hf : ρ (.func 20) = .func (.func 20) #[] #[]) :
    (execOp ρ { dst := dst, op := .call { callee := .value (.func 20), args := #[s], argTypes := #[9] }, type := type, pos := pos, after := ed, guard := guard }).run Tryd.prog w = .ok (.enter 20 #[ρ s]) w := by
  go_simp
theorem call20_wp {o : Oper} {a : Act} {w : World} {K : Act → World → Prop} (t : Operand) (h : o.op = .call { callee := .value (.func 20), args := #[t], argTypes := #[9] }) {s : ByteArray} {n : Nat} {st q E : Int} {l : List (Nat × List UInt8)} (hs : a.eval t = .string s)
    (hcall : Calls Tryd.prog 20 #[.string s] w fun e w' => ∃ xa xc, e = .returned (.tuple #[.agg #[.int .u32 st, .slice xa n xc], .int .i64 q, .int .i64 E]) ∧ SgR w' (.slice xa n xc) l ∧ Below w.heap.size w w')
    (hK : ∀ w' xa xc, SgR w' (.slice xa n xc) l → Below w.heap.size w w' → K (a.put o.dst (.tuple #[.agg #[.int .u32 st, .slice xa n xc], .int .i64 q, .int .i64 E])) w') : o.wp Tryd.prog a w K Q := by
  obtain ⟨dst, op, type, pos, ed, guard⟩ := o
  simp only [] at h
  subst h
  unfold Oper.wp
  rw [exec_call20 a.eval t dst type pos ed guard w rfl, hs, Oper.upon_enter]
  refine hcall.mono ?_
  rintro e w' ⟨xa, xc, rfl, hx, hb⟩
  exact hK w' xa xc hx hb
theorem exec_st (ρ : Operand → Value) (s t : Operand) {p : Nat} {st : Int} {xa : Option Addr} {n xc : Nat} (type : TypeId) (pos : String) (ed : Array Edge) (guard : Option (Nat × Bool)) (w : World) (hs : ρ s = .pointer (some ⟨p, 0, none⟩)) (ht : ρ t = .agg #[.int .u32 st, .slice xa n xc]) (hp : w.heap[p]? = some (.cells zer 25 (0, 0))) :
    (execOp ρ { dst := none, op := .store 25 s t, type := type, pos := pos, after := ed, guard := guard }).run Tryd.prog w = .ok .skip ((w.setCell ⟨p, 0, none⟩ (.int .u32 st)).setCell ⟨p, 1, none⟩ (.slice xa n xc)) := by
  have c0 := cell_of (o := 0) hp rfl
  have c1 := cell_of (o := 1) hp rfl
  have ef := fun o => unfrozen (o := o) hp
  go_simp
theorem st_wp {o : Oper} {a : Act} {w : World} {K : Act → World → Prop} (s t : Operand) (h : o.op = .store 25 s t) (hd : o.dst = none) {p : Nat} {st : Int} {xa : Option Addr} {n xc : Nat} (hs : a.eval s = .pointer (some ⟨p, 0, none⟩)) (ht : a.eval t = .agg #[.int .u32 st, .slice xa n xc]) (hp : w.heap[p]? = some (.cells zer 25 (0, 0)))
    (hK : ∀ w', Below p w w' → K a w') : o.wp Tryd.prog a w K Q := by
  obtain ⟨dst, op, type, pos, ed, guard⟩ := o
  simp only [] at h hd
  subst h hd
  unfold Oper.wp
  rw [exec_st a.eval s t type pos ed guard w hs ht hp, Oper.upon_skip]
  exact hK _ (((Below.refl p w).setCell (show p ≤ (⟨p, 0, none⟩ : Addr).block from Nat.le_refl p) _).setCell (show p ≤ (⟨p, 1, none⟩ : Addr).block from Nat.le_refl p) _)
end
set_option maxRecDepth 100000 in
set_option maxHeartbeats 4000000 in
theorem find_main {w : World} {st : Nat} {sv : Value} {l : List (Nat × List UInt8)} (i : Int) (c : UInt8) (T : ByteArray) (hst : st < 4294967296) (hs : SgR w sv l) (ha : ∀ p ∈ l, p.1 < 4294967296) (ht : Tw w) (hf : ltB l = true) (hd : dgB c.toNat = true) (hT : (⟨(RM.TX st l).toArray⟩ : ByteArray) = T) (k : Nat) (hk : i = k) (hkl : k < T.size) (hb : dgB (T[k]'hkl).toNat = true) (hne : T[k]'hkl ≠ c) (hsz : T.size ≤ 1000000)
    (Z : ByteArray) (hZ : T.extract 0 k ++ ⟨#[c]⟩ ++ T.extract (k + 1) T.size = Z) {m : List (Nat × List UInt8)} {t q : Nat} {E : Int} (hp : RM.PA Z.data.toList = (m, t, q, E)) (hE : E ≠ 0) (hq : 0 < q) :
    Calls Tryd.prog 7 #[.agg #[.int .u32 st, sv], .int .i64 i, .int .u8 c.toNat] w fun e w' => e = .returned (.bool true) ∧ Below w.heap.size w w' := by
  have H9 := Lib.hid (fun (W : World) (hb : Below w.heap.size w W) => light_any (st := st) (hs.below hb))
  have HAW := Lib.hid (fun (W : World) (hb : Below w.heap.size w W) => ht.wake hb)
  have HD := Lib.hid (fun W => digit_any c.toNat W)
  rw [hd] at HD
  obtain ⟨f1, f2, -⟩ := ltB_open hf
  have HT := Lib.hid (fun (W : World) (hb : Below w.heap.size w W) => text_any (st := st) (hs.below hb) hst (by omega) (fun p hp => ⟨ha p hp, by have := f2 p hp; omega⟩) (ht.on hb).1)
  rw [hT] at HT
  subst hk
  have HZZ := Lib.hid hZ
  have HE := Lib.hid (fun W => digit_any (T[k]'hkl).toNat W)
  rw [hb] at HE
  have hzs : Z.size ≤ 9223372036854775807 := by rw [← hZ, ByteArray.size_append, ByteArray.size_append, ByteArray.size_extract, ByteArray.size_extract, show (⟨#[c]⟩ : ByteArray).size = 1 from rfl]; omega
  have HQ := Lib.hid (fun (W : World) (hb : Below w.heap.size w W) => parse_read Z W hzs (ht.on hb).2 hp)
  have hE1 : (E == 0) = false := by simpa using hE
  have hE2 : (E != 0) = true := by simpa using hE
  have hq' : (0 : Int) < q := by omega
  have n0 : ¬ (T[k]'hkl).toNat = c.toNat := fun h => hne (UInt8.toNat_inj.1 h)
  have n1 : ((T[k]'hkl).toNat == c.toNat) = false := by rw [beq_eq_false_iff_ne]; exact n0
  have n2 : (((T[k]'hkl).toNat : Int) == (c.toNat : Int)) = false := by rw [beq_eq_false_iff_ne]; omega
  obtain ⟨mm, hmm⟩ : ∃ mm, m.length = mm := ⟨_, rfl⟩
  rw [hmm] at HQ
  obtain ⟨sa, sc, rfl⟩ := sv_form hs
  obtain ⟨n, hn⟩ : ∃ n, l.length = n := ⟨_, rfl⟩
  rw [hn] at H9 HT ⊢
  rw [hf] at H9
  obtain ⟨W0, hW0⟩ : ∃ W0, w.alloc (.cells #[.int .u32 st, .slice sa n sc] 25) = W0 := ⟨_, rfl⟩
  have HB0 := Lib.hid (show Below w.heap.size w W0 from hW0 ▸ (Below.refl _ w).alloc (Nat.le_refl _) _)
  have HI0 := Lib.hid (show W0.heap[w.heap.size]? = some (.cells #[.int .u32 st, .slice sa n sc] 25 (0, 0)) from hW0 ▸ heap_alloc_new w _)
  clear hs ha ht hf hn f1 f2 hT hst hd hb hp hE hq hmm hne hzs hZ
  go_enter Tryd.func7, Tryd.ntmps7
  go_upto_region 1 with fail
  have c0 := cell_of (o := 0) HI0.out rfl
  have c1 := cell_of (o := 1) HI0.out rfl
  clear hW0
  go_upto_region 3 with (first
    | (go_at_call 9; refine (H9.out _ HB0.out).mono ?_; rintro e w1 ⟨rfl, hb1⟩; have HB1 := Lib.hid (HB0.out.trans (hb1.mono HB0.out.size)); have HI1 := Lib.hid ((hb1.block _ (lt_of_heap HI0.out)).trans HI0.out); clear hb1)
    | (go_at_call 23; refine (HD.out _).mono ?_; rintro e w3 ⟨rfl, rfl⟩))
  clear c0 c1
  have d0 := cell_of (o := 0) HI1.out rfl
  have d1 := cell_of (o := 1) HI1.out rfl
  go_upto_region 4 with (go_at_call 16; refine (HT.out _ HB1.out).mono ?_; rintro e w4 ⟨rfl, hb4⟩; have HB4 := Lib.hid (HB1.out.trans (hb4.mono HB1.out.size)); clear hb4)
  clear d0 d1
  go_upto_region 6 with (go_at_call 23; refine (HE.out _).mono ?_; rintro e w5 ⟨rfl, rfl⟩)
  obtain ⟨V0, hV0⟩ : ∃ W, World.drew w5 = W := ⟨_, rfl⟩
  have BV0 := Lib.hid (show Below w.heap.size w V0 from hV0 ▸ HB4.out.drew)
  have hk1 : (k : Int) ≤ T.size := by omega
  have hk2 : IntKind.i64.wrap ((k : Int) + 1) = (k : Int) + 1 := by rw [IntKind.wrap_i64]; omega
  have hk3 : (k : Int) + 1 ≤ T.size := by omega
  have hs1 : ¬ 9223372036854775807 < min k T.size + 1 := by omega
  have hs2 : ¬ 9223372036854775807 < min k T.size + 1 + (T.size - (k + 1)) := by omega
  have HV0 := Lib.hid hV0
  clear hV0
  refine wp_region_held (S := fun _ => True) (by kernel_rfl) ?_
  rw [show ({ w5 with drawn := w5.drawn + 1 } : World) = V0 from HV0.out]
  refine wpAnyH_take (i := 0) (v := ?v1) rfl (by kernel_rfl) (by kernel_rfl) (by kernel_rfl) (fun _ _ _ h => h) (Or.inl ⟨by rfl, ?y1⟩) trivial ?r1
  case y1 => (intro W hW; go_simp; try rfl)
  simp only [Act.put, List.getElem_toArray, List.getElem_cons_zero, List.setIfInBounds_toArray, List.set_cons_zero, List.set_cons_succ]
  refine wpAnyH_take (i := 1) (v := ?v2) rfl (by kernel_rfl) (by kernel_rfl) (by kernel_rfl) (fun _ _ _ h => h) (Or.inl ⟨by rfl, ?y2⟩) trivial ?r2
  case y2 => (intro W hW; go_simp; try rfl)
  simp only [Act.put, List.getElem_toArray, List.getElem_cons_succ, List.getElem_cons_zero, List.setIfInBounds_toArray, List.set_cons_zero, List.set_cons_succ]
  refine wpAnyH_take (i := 2) (v := ?v3) rfl (by kernel_rfl) (by kernel_rfl) (by kernel_rfl) (fun _ _ _ h => h) (Or.inl ⟨by rfl, ?y3⟩) trivial ?r3
  case y3 => (intro W hW; go_simp; try rfl)
  simp only [Act.put, List.getElem_toArray, List.getElem_cons_succ, List.getElem_cons_zero, List.setIfInBounds_toArray, List.set_cons_zero, List.set_cons_succ]
  refine wpAnyH_take (i := 3) (v := ?v4) rfl (by kernel_rfl) (by kernel_rfl) (by kernel_rfl) (fun _ _ _ h => h) (Or.inl ⟨by rfl, ?y4⟩) trivial ?r4
  case y4 => (intro W hW; go_simp; try rfl)
  simp only [Act.put, List.getElem_toArray, List.getElem_cons_succ, List.getElem_cons_zero, List.setIfInBounds_toArray, List.set_cons_zero, List.set_cons_succ]
  refine wpAnyH_take (i := 7) (v := ?v5) rfl (by kernel_rfl) (by kernel_rfl) (by kernel_rfl) (fun _ _ _ h => h) (Or.inl ⟨by rfl, ?y5⟩) trivial ?r5
  case y5 => (intro W hW; go_simp; try rfl)
  simp only [Act.put, List.getElem_toArray, List.getElem_cons_succ, List.getElem_cons_zero, List.setIfInBounds_toArray, List.set_cons_zero, List.set_cons_succ]
  refine wpAnyH_take (i := 8) (v := ?v6) rfl (by kernel_rfl) (by kernel_rfl) (by kernel_rfl) (fun _ _ _ h => h) (Or.inl ⟨by rfl, ?y6⟩) trivial ?r6
  case y6 => (intro W hW; go_simp; try rfl)
  simp only [Act.put, List.getElem_toArray, List.getElem_cons_succ, List.getElem_cons_zero, List.setIfInBounds_toArray, List.set_cons_zero, List.set_cons_succ]
  refine wpAnyH_take (i := 9) (v := ?v7) rfl (by kernel_rfl) (by kernel_rfl) (by kernel_rfl) (fun _ _ _ h => h) (Or.inl ⟨by rfl, ?y7⟩) trivial ?r7
  case y7 => (intro W hW; go_simp; try rfl)
  simp only [Act.put, List.getElem_toArray, List.getElem_cons_succ, List.getElem_cons_zero, List.setIfInBounds_toArray, List.set_cons_zero, List.set_cons_succ]
  refine wpAnyH_take (i := 10) (v := ?v8) rfl (by kernel_rfl) (by kernel_rfl) (by kernel_rfl) (fun _ _ _ h => h) (Or.inl ⟨by rfl, ?y8⟩) trivial ?r8
  case y8 => (intro W hW; go_simp; try rfl)
  simp only [Act.put, List.getElem_toArray, List.getElem_cons_succ, List.getElem_cons_zero, List.setIfInBounds_toArray, List.set_cons_zero, List.set_cons_succ]
  refine wpAnyH_all (rs := [4, 17]) (by kernel_rfl) (by decide) (fun i hi => ?_)
  have hii : i = 4 ∨ i = 17 := by simpa using hi
  rcases hii with rfl | rfl
  · refine wpOp_step rfl (fun K' hK => ?_)
    rw [if_pos (by rfl)]
    refine build_wp (.tmp 49) rfl (c := (c.toNat : Int)) (by kernel_rfl) (hK _ _ ⟨trivial, ?_⟩)
    clear hi hK K'
    obtain ⟨V1, hV1⟩ : ∃ W, World.alloc V0 (.cells #[.int .u8 c.toNat] 5) = W := ⟨_, rfl⟩
    obtain ⟨bc, hbc⟩ : ∃ b, V0.heap.size = b := ⟨_, rfl⟩
    have CV1 := Lib.hid (show V1.heap[bc]? = some (.cells #[.int .u8 c.toNat] 5 (0, 0)) from hbc ▸ hV1 ▸ heap_alloc_new V0 _)
    have BV1 := Lib.hid (show Below w.heap.size w V1 from hV1 ▸ BV0.out.alloc BV0.out.size _)
    rw [hV1, hbc]
    clear hV1 hbc
    simp only [Act.put, List.getElem_toArray, List.getElem_cons_succ, List.getElem_cons_zero, List.setIfInBounds_toArray, List.set_cons_zero, List.set_cons_succ]
    refine wpAnyH_all (rs := [5, 17]) (by kernel_rfl) (by decide) (fun i hi => ?_)
    have hii : i = 5 ∨ i = 17 := by simpa using hi
    rcases hii with rfl | rfl
    · refine wpOp_step rfl (fun K' hK => ?_)
      rw [if_pos (by rfl)]
      refine conv_wp (.tmp 50) rfl (B := bc) (c := c) (by kernel_rfl) (cell_of (o := 0) CV1.out rfl) (hK _ _ ⟨trivial, ?_⟩)
      clear hi hK K'
      simp only [Act.put, List.getElem_toArray, List.getElem_cons_succ, List.getElem_cons_zero, List.setIfInBounds_toArray, List.set_cons_zero, List.set_cons_succ]
      refine wpAnyH_take (i := 6) (v := ?v9) rfl (by kernel_rfl) (by kernel_rfl) (by kernel_rfl) (fun _ _ _ h => h) (Or.inl ⟨by rfl, ?y9⟩) trivial ?r9
      case y9 => (intro W hW; go_simp; try rfl)
      simp only [Act.put, List.getElem_toArray, List.getElem_cons_succ, List.getElem_cons_zero, List.setIfInBounds_toArray, List.set_cons_zero, List.set_cons_succ]
      refine wpAnyH_take (i := 11) (v := ?v10) rfl (by kernel_rfl) (by kernel_rfl) (by kernel_rfl) (fun _ _ _ h => h) (Or.inl ⟨by rfl, ?y10⟩) trivial ?r10
      case y10 => (intro W hW; go_simp; try rfl)
      simp only [Act.put, List.getElem_toArray, List.getElem_cons_succ, List.getElem_cons_zero, List.setIfInBounds_toArray, List.set_cons_zero, List.set_cons_succ]
      refine wpAnyH_all (rs := [12, 17]) (by kernel_rfl) (by decide) (fun i hi => ?_)
      have hii : i = 12 ∨ i = 17 := by simpa using hi
      rcases hii with rfl | rfl
      · refine wpOp_step rfl (fun K' hK => ?_)
        rw [if_pos (by rfl)]
        refine call20_wp (.tmp 57) rfl (s := Z) (Eq.trans (b := Value.string (T.extract 0 k ++ ⟨#[c]⟩ ++ T.extract (k + 1) T.size)) (by kernel_rfl) (congrArg Value.string HZZ.out)) (HQ.out _ BV1.out) (fun V2 xa xc hx hb => hK _ _ ⟨trivial, ?_⟩)
        clear hi hK K' hx
        have BV2 := Lib.hid (BV1.out.trans (hb.mono BV1.out.size))
        clear hb
        simp only [Act.put, List.getElem_toArray, List.getElem_cons_succ, List.getElem_cons_zero, List.setIfInBounds_toArray, List.set_cons_zero, List.set_cons_succ]
        refine wpAnyH_take (i := 13) (v := ?v11) rfl (by kernel_rfl) (by kernel_rfl) (by kernel_rfl) (fun _ _ _ h => h) (Or.inl ⟨by rfl, ?y11⟩) trivial ?r11
        case y11 => (intro W hW; go_simp; try rfl)
        simp only [Act.put, List.getElem_toArray, List.getElem_cons_succ, List.getElem_cons_zero, List.setIfInBounds_toArray, List.set_cons_zero, List.set_cons_succ]
        refine wpAnyH_take (i := 14) (v := ?v12) rfl (by kernel_rfl) (by kernel_rfl) (by kernel_rfl) (fun _ _ _ h => h) (Or.inl ⟨by rfl, ?y12⟩) trivial ?r12
        case y12 => (intro W hW; go_simp; try rfl)
        simp only [Act.put, List.getElem_toArray, List.getElem_cons_succ, List.getElem_cons_zero, List.setIfInBounds_toArray, List.set_cons_zero, List.set_cons_succ]
        refine wpAnyH_take (i := 15) (v := ?v13) rfl (by kernel_rfl) (by kernel_rfl) (by kernel_rfl) (fun _ _ _ h => h) (Or.inl ⟨by rfl, ?y13⟩) trivial ?r13
        case y13 => (intro W hW; go_simp; try rfl)
        simp only [Act.put, List.getElem_toArray, List.getElem_cons_succ, List.getElem_cons_zero, List.setIfInBounds_toArray, List.set_cons_zero, List.set_cons_succ]
        refine wpAnyH_take (i := 16) (v := ?v14) rfl (by kernel_rfl) (by kernel_rfl) (by kernel_rfl) (fun _ _ _ h => h) (Or.inl ⟨by rfl, ?y14⟩) trivial ?r14
        case y14 => (intro W hW; go_simp; try rfl)
        simp only [Act.put, List.getElem_toArray, List.getElem_cons_succ, List.getElem_cons_zero, List.setIfInBounds_toArray, List.set_cons_zero, List.set_cons_succ]
        refine wpAnyH_all (rs := [17]) (by kernel_rfl) (by decide) (fun i hi => ?_)
        obtain rfl : i = 17 := by simpa using hi
        refine wpOp_step rfl (fun K' hK => ?_)
        rw [if_pos (by rfl)]
        refine al_wp rfl (hK _ _ ⟨trivial, ?_⟩)
        clear hi hK K'
        obtain ⟨V3, hV3⟩ : ∃ W, World.alloc V2 (.cells zer 25) = W := ⟨_, rfl⟩
        obtain ⟨bi, hbi⟩ : ∃ b, V2.heap.size = b := ⟨_, rfl⟩
        have PV3 := Lib.hid (show V3.heap[bi]? = some (.cells zer 25 (0, 0)) from hbi ▸ hV3 ▸ heap_alloc_new V2 _)
        have BV3 := Lib.hid (show Below w.heap.size w V3 from hV3 ▸ BV2.out.alloc BV2.out.size _)
        have LV3 := Lib.hid (show w.heap.size ≤ bi from hbi ▸ BV2.out.size)
        rw [hV3, hbi]
        clear hV3 hbi
        simp only [Act.put, List.getElem_toArray, List.getElem_cons_succ, List.getElem_cons_zero, List.setIfInBounds_toArray, List.set_cons_zero, List.set_cons_succ]
        refine wpAnyH_all (rs := [18]) (by kernel_rfl) (by decide) (fun i hi => ?_)
        obtain rfl : i = 18 := by simpa using hi
        refine wpOp_step rfl (fun K' hK => ?_)
        rw [if_pos (by rfl)]
        refine st_wp (.tmp 8) (.tmp 59) rfl rfl (p := bi) (st := (t : Int)) (xa := xa) (n := mm) (xc := xc) (by kernel_rfl) (by kernel_rfl) PV3.out (fun W9 hb9 => hK _ _ ⟨trivial, ?_⟩)
        have B9 := Lib.hid (BV3.out.trans (hb9.mono LV3.out))
        clear hi hK K' hb9
        refine wpAnyH_take (i := 19) (v := ?v15) rfl (by kernel_rfl) (by kernel_rfl) (by kernel_rfl) (fun _ _ _ h => h) (Or.inl ⟨by rfl, ?y15⟩) trivial ?r15
        case y15 => (intro W hW; go_simp; try rfl)
        simp only [Act.put, List.getElem_toArray, List.getElem_cons_succ, List.getElem_cons_zero, List.setIfInBounds_toArray, List.set_cons_zero, List.set_cons_succ]
        refine wpAnyH_take (i := 20) (v := ?v16) rfl (by kernel_rfl) (by kernel_rfl) (by kernel_rfl) (fun _ _ _ h => h) (Or.inl ⟨by rfl, ?y16⟩) trivial ?r16
        case y16 => (intro W hW; go_simp; try rfl)
        simp only [Act.put, List.getElem_toArray, List.getElem_cons_succ, List.getElem_cons_zero, List.setIfInBounds_toArray, List.set_cons_zero, List.set_cons_succ]
        refine wpAnyH_done (by kernel_rfl) ?_ _
        go_wp2_with (go_at_call 10; refine (HAW.out _ B9.out).mono ?_; rintro e w10 ⟨rfl, hb10⟩; have HBX := Lib.hid (B9.out.trans (hb10.mono B9.out.size)); clear hb10)
        go_ret
        exact ⟨rfl, HBX.out⟩
      · refine wpOp_step rfl (fun K' hK => ?_)
        rw [if_pos (by rfl)]
        refine al_wp rfl (hK _ _ ⟨trivial, ?_⟩)
        clear hi hK K'
        obtain ⟨V2, hV2⟩ : ∃ W, World.alloc V1 (.cells zer 25) = W := ⟨_, rfl⟩
        obtain ⟨bi, hbi⟩ : ∃ b, V1.heap.size = b := ⟨_, rfl⟩
        have PV2 := Lib.hid (show V2.heap[bi]? = some (.cells zer 25 (0, 0)) from hbi ▸ hV2 ▸ heap_alloc_new V1 _)
        have BV2 := Lib.hid (show Below w.heap.size w V2 from hV2 ▸ BV1.out.alloc BV1.out.size _)
        have LV2 := Lib.hid (show w.heap.size ≤ bi from hbi ▸ BV1.out.size)
        have CV2 := Lib.hid (show V2.heap[bc]? = some (.cells #[.int .u8 c.toNat] 5 (0, 0)) from hV2 ▸ (Below.heap_alloc V1 _ _ (lt_of_heap CV1.out)).trans CV1.out)
        rw [hV2, hbi]
        clear hV2 hbi
        simp only [Act.put, List.getElem_toArray, List.getElem_cons_succ, List.getElem_cons_zero, List.setIfInBounds_toArray, List.set_cons_zero, List.set_cons_succ]
        refine wpAnyH_all (rs := [12]) (by kernel_rfl) (by decide) (fun i hi => ?_)
        obtain rfl : i = 12 := by simpa using hi
        refine wpOp_step rfl (fun K' hK => ?_)
        rw [if_pos (by rfl)]
        refine call20_wp (.tmp 57) rfl (s := Z) (Eq.trans (b := Value.string (T.extract 0 k ++ ⟨#[c]⟩ ++ T.extract (k + 1) T.size)) (by kernel_rfl) (congrArg Value.string HZZ.out)) (HQ.out _ BV2.out) (fun V3 xa xc hx hb => hK _ _ ⟨trivial, ?_⟩)
        clear hi hK K' hx
        have BV3 := Lib.hid (BV2.out.trans (hb.mono BV2.out.size))
        have PV3 := Lib.hid ((hb.block _ (lt_of_heap PV2.out)).trans PV2.out)
        have LV3 := LV2
        clear hb
        simp only [Act.put, List.getElem_toArray, List.getElem_cons_succ, List.getElem_cons_zero, List.setIfInBounds_toArray, List.set_cons_zero, List.set_cons_succ]
        refine wpAnyH_take (i := 13) (v := ?v17) rfl (by kernel_rfl) (by kernel_rfl) (by kernel_rfl) (fun _ _ _ h => h) (Or.inl ⟨by rfl, ?y17⟩) trivial ?r17
        case y17 => (intro W hW; go_simp; try rfl)
        simp only [Act.put, List.getElem_toArray, List.getElem_cons_succ, List.getElem_cons_zero, List.setIfInBounds_toArray, List.set_cons_zero, List.set_cons_succ]
        refine wpAnyH_take (i := 14) (v := ?v18) rfl (by kernel_rfl) (by kernel_rfl) (by kernel_rfl) (fun _ _ _ h => h) (Or.inl ⟨by rfl, ?y18⟩) trivial ?r18
        case y18 => (intro W hW; go_simp; try rfl)
        simp only [Act.put, List.getElem_toArray, List.getElem_cons_succ, List.getElem_cons_zero, List.setIfInBounds_toArray, List.set_cons_zero, List.set_cons_succ]
        refine wpAnyH_take (i := 15) (v := ?v19) rfl (by kernel_rfl) (by kernel_rfl) (by kernel_rfl) (fun _ _ _ h => h) (Or.inl ⟨by rfl, ?y19⟩) trivial ?r19
        case y19 => (intro W hW; go_simp; try rfl)
        simp only [Act.put, List.getElem_toArray, List.getElem_cons_succ, List.getElem_cons_zero, List.setIfInBounds_toArray, List.set_cons_zero, List.set_cons_succ]
        refine wpAnyH_take (i := 16) (v := ?v20) rfl (by kernel_rfl) (by kernel_rfl) (by kernel_rfl) (fun _ _ _ h => h) (Or.inl ⟨by rfl, ?y20⟩) trivial ?r20
        case y20 => (intro W hW; go_simp; try rfl)
        simp only [Act.put, List.getElem_toArray, List.getElem_cons_succ, List.getElem_cons_zero, List.setIfInBounds_toArray, List.set_cons_zero, List.set_cons_succ]
        refine wpAnyH_all (rs := [18]) (by kernel_rfl) (by decide) (fun i hi => ?_)
        obtain rfl : i = 18 := by simpa using hi
        refine wpOp_step rfl (fun K' hK => ?_)
        rw [if_pos (by rfl)]
        refine st_wp (.tmp 8) (.tmp 59) rfl rfl (p := bi) (st := (t : Int)) (xa := xa) (n := mm) (xc := xc) (by kernel_rfl) (by kernel_rfl) PV3.out (fun W9 hb9 => hK _ _ ⟨trivial, ?_⟩)
        have B9 := Lib.hid (BV3.out.trans (hb9.mono LV3.out))
        clear hi hK K' hb9
        refine wpAnyH_take (i := 19) (v := ?v21) rfl (by kernel_rfl) (by kernel_rfl) (by kernel_rfl) (fun _ _ _ h => h) (Or.inl ⟨by rfl, ?y21⟩) trivial ?r21
        case y21 => (intro W hW; go_simp; try rfl)
        simp only [Act.put, List.getElem_toArray, List.getElem_cons_succ, List.getElem_cons_zero, List.setIfInBounds_toArray, List.set_cons_zero, List.set_cons_succ]
        refine wpAnyH_take (i := 20) (v := ?v22) rfl (by kernel_rfl) (by kernel_rfl) (by kernel_rfl) (fun _ _ _ h => h) (Or.inl ⟨by rfl, ?y22⟩) trivial ?r22
        case y22 => (intro W hW; go_simp; try rfl)
        simp only [Act.put, List.getElem_toArray, List.getElem_cons_succ, List.getElem_cons_zero, List.setIfInBounds_toArray, List.set_cons_zero, List.set_cons_succ]
        refine wpAnyH_done (by kernel_rfl) ?_ _
        go_wp2_with (go_at_call 10; refine (HAW.out _ B9.out).mono ?_; rintro e w10 ⟨rfl, hb10⟩; have HBX := Lib.hid (B9.out.trans (hb10.mono B9.out.size)); clear hb10)
        go_ret
        exact ⟨rfl, HBX.out⟩
    · refine wpOp_step rfl (fun K' hK => ?_)
      rw [if_pos (by rfl)]
      refine al_wp rfl (hK _ _ ⟨trivial, ?_⟩)
      clear hi hK K'
      obtain ⟨V2, hV2⟩ : ∃ W, World.alloc V1 (.cells zer 25) = W := ⟨_, rfl⟩
      obtain ⟨bi, hbi⟩ : ∃ b, V1.heap.size = b := ⟨_, rfl⟩
      have PV2 := Lib.hid (show V2.heap[bi]? = some (.cells zer 25 (0, 0)) from hbi ▸ hV2 ▸ heap_alloc_new V1 _)
      have BV2 := Lib.hid (show Below w.heap.size w V2 from hV2 ▸ BV1.out.alloc BV1.out.size _)
      have LV2 := Lib.hid (show w.heap.size ≤ bi from hbi ▸ BV1.out.size)
      have CV2 := Lib.hid (show V2.heap[bc]? = some (.cells #[.int .u8 c.toNat] 5 (0, 0)) from hV2 ▸ (Below.heap_alloc V1 _ _ (lt_of_heap CV1.out)).trans CV1.out)
      rw [hV2, hbi]
      clear hV2 hbi
      simp only [Act.put, List.getElem_toArray, List.getElem_cons_succ, List.getElem_cons_zero, List.setIfInBounds_toArray, List.set_cons_zero, List.set_cons_succ]
      refine wpAnyH_all (rs := [5]) (by kernel_rfl) (by decide) (fun i hi => ?_)
      obtain rfl : i = 5 := by simpa using hi
      refine wpOp_step rfl (fun K' hK => ?_)
      rw [if_pos (by rfl)]
      refine conv_wp (.tmp 50) rfl (B := bc) (c := c) (by kernel_rfl) (cell_of (o := 0) CV2.out rfl) (hK _ _ ⟨trivial, ?_⟩)
      clear hi hK K'
      simp only [Act.put, List.getElem_toArray, List.getElem_cons_succ, List.getElem_cons_zero, List.setIfInBounds_toArray, List.set_cons_zero, List.set_cons_succ]
      refine wpAnyH_take (i := 6) (v := ?v23) rfl (by kernel_rfl) (by kernel_rfl) (by kernel_rfl) (fun _ _ _ h => h) (Or.inl ⟨by rfl, ?y23⟩) trivial ?r23
      case y23 => (intro W hW; go_simp; try rfl)
      simp only [Act.put, List.getElem_toArray, List.getElem_cons_succ, List.getElem_cons_zero, List.setIfInBounds_toArray, List.set_cons_zero, List.set_cons_succ]
      refine wpAnyH_take (i := 11) (v := ?v24) rfl (by kernel_rfl) (by kernel_rfl) (by kernel_rfl) (fun _ _ _ h => h) (Or.inl ⟨by rfl, ?y24⟩) trivial ?r24
      case y24 => (intro W hW; go_simp; try rfl)
      simp only [Act.put, List.getElem_toArray, List.getElem_cons_succ, List.getElem_cons_zero, List.setIfInBounds_toArray, List.set_cons_zero, List.set_cons_succ]
      refine wpAnyH_all (rs := [12]) (by kernel_rfl) (by decide) (fun i hi => ?_)
      obtain rfl : i = 12 := by simpa using hi
      refine wpOp_step rfl (fun K' hK => ?_)
      rw [if_pos (by rfl)]
      refine call20_wp (.tmp 57) rfl (s := Z) (Eq.trans (b := Value.string (T.extract 0 k ++ ⟨#[c]⟩ ++ T.extract (k + 1) T.size)) (by kernel_rfl) (congrArg Value.string HZZ.out)) (HQ.out _ BV2.out) (fun V3 xa xc hx hb => hK _ _ ⟨trivial, ?_⟩)
      clear hi hK K' hx
      have BV3 := Lib.hid (BV2.out.trans (hb.mono BV2.out.size))
      have PV3 := Lib.hid ((hb.block _ (lt_of_heap PV2.out)).trans PV2.out)
      have LV3 := LV2
      clear hb
      simp only [Act.put, List.getElem_toArray, List.getElem_cons_succ, List.getElem_cons_zero, List.setIfInBounds_toArray, List.set_cons_zero, List.set_cons_succ]
      refine wpAnyH_take (i := 13) (v := ?v25) rfl (by kernel_rfl) (by kernel_rfl) (by kernel_rfl) (fun _ _ _ h => h) (Or.inl ⟨by rfl, ?y25⟩) trivial ?r25
      case y25 => (intro W hW; go_simp; try rfl)
      simp only [Act.put, List.getElem_toArray, List.getElem_cons_succ, List.getElem_cons_zero, List.setIfInBounds_toArray, List.set_cons_zero, List.set_cons_succ]
      refine wpAnyH_take (i := 14) (v := ?v26) rfl (by kernel_rfl) (by kernel_rfl) (by kernel_rfl) (fun _ _ _ h => h) (Or.inl ⟨by rfl, ?y26⟩) trivial ?r26
      case y26 => (intro W hW; go_simp; try rfl)
      simp only [Act.put, List.getElem_toArray, List.getElem_cons_succ, List.getElem_cons_zero, List.setIfInBounds_toArray, List.set_cons_zero, List.set_cons_succ]
      refine wpAnyH_take (i := 15) (v := ?v27) rfl (by kernel_rfl) (by kernel_rfl) (by kernel_rfl) (fun _ _ _ h => h) (Or.inl ⟨by rfl, ?y27⟩) trivial ?r27
      case y27 => (intro W hW; go_simp; try rfl)
      simp only [Act.put, List.getElem_toArray, List.getElem_cons_succ, List.getElem_cons_zero, List.setIfInBounds_toArray, List.set_cons_zero, List.set_cons_succ]
      refine wpAnyH_take (i := 16) (v := ?v28) rfl (by kernel_rfl) (by kernel_rfl) (by kernel_rfl) (fun _ _ _ h => h) (Or.inl ⟨by rfl, ?y28⟩) trivial ?r28
      case y28 => (intro W hW; go_simp; try rfl)
      simp only [Act.put, List.getElem_toArray, List.getElem_cons_succ, List.getElem_cons_zero, List.setIfInBounds_toArray, List.set_cons_zero, List.set_cons_succ]
      refine wpAnyH_all (rs := [18]) (by kernel_rfl) (by decide) (fun i hi => ?_)
      obtain rfl : i = 18 := by simpa using hi
      refine wpOp_step rfl (fun K' hK => ?_)
      rw [if_pos (by rfl)]
      refine st_wp (.tmp 8) (.tmp 59) rfl rfl (p := bi) (st := (t : Int)) (xa := xa) (n := mm) (xc := xc) (by kernel_rfl) (by kernel_rfl) PV3.out (fun W9 hb9 => hK _ _ ⟨trivial, ?_⟩)
      have B9 := Lib.hid (BV3.out.trans (hb9.mono LV3.out))
      clear hi hK K' hb9
      refine wpAnyH_take (i := 19) (v := ?v29) rfl (by kernel_rfl) (by kernel_rfl) (by kernel_rfl) (fun _ _ _ h => h) (Or.inl ⟨by rfl, ?y29⟩) trivial ?r29
      case y29 => (intro W hW; go_simp; try rfl)
      simp only [Act.put, List.getElem_toArray, List.getElem_cons_succ, List.getElem_cons_zero, List.setIfInBounds_toArray, List.set_cons_zero, List.set_cons_succ]
      refine wpAnyH_take (i := 20) (v := ?v30) rfl (by kernel_rfl) (by kernel_rfl) (by kernel_rfl) (fun _ _ _ h => h) (Or.inl ⟨by rfl, ?y30⟩) trivial ?r30
      case y30 => (intro W hW; go_simp; try rfl)
      simp only [Act.put, List.getElem_toArray, List.getElem_cons_succ, List.getElem_cons_zero, List.setIfInBounds_toArray, List.set_cons_zero, List.set_cons_succ]
      refine wpAnyH_done (by kernel_rfl) ?_ _
      go_wp2_with (go_at_call 10; refine (HAW.out _ B9.out).mono ?_; rintro e w10 ⟨rfl, hb10⟩; have HBX := Lib.hid (B9.out.trans (hb10.mono B9.out.size)); clear hb10)
      go_ret
      exact ⟨rfl, HBX.out⟩
  · refine wpOp_step rfl (fun K' hK => ?_)
    rw [if_pos (by rfl)]
    refine al_wp rfl (hK _ _ ⟨trivial, ?_⟩)
    clear hi hK K'
    obtain ⟨V1, hV1⟩ : ∃ W, World.alloc V0 (.cells zer 25) = W := ⟨_, rfl⟩
    obtain ⟨bi, hbi⟩ : ∃ b, V0.heap.size = b := ⟨_, rfl⟩
    have PV1 := Lib.hid (show V1.heap[bi]? = some (.cells zer 25 (0, 0)) from hbi ▸ hV1 ▸ heap_alloc_new V0 _)
    have BV1 := Lib.hid (show Below w.heap.size w V1 from hV1 ▸ BV0.out.alloc BV0.out.size _)
    have LV1 := Lib.hid (show w.heap.size ≤ bi from hbi ▸ BV0.out.size)
    rw [hV1, hbi]
    clear hV1 hbi
    simp only [Act.put, List.getElem_toArray, List.getElem_cons_succ, List.getElem_cons_zero, List.setIfInBounds_toArray, List.set_cons_zero, List.set_cons_succ]
    refine wpAnyH_all (rs := [4]) (by kernel_rfl) (by decide) (fun i hi => ?_)
    obtain rfl : i = 4 := by simpa using hi
    refine wpOp_step rfl (fun K' hK => ?_)
    rw [if_pos (by rfl)]
    refine build_wp (.tmp 49) rfl (c := (c.toNat : Int)) (by kernel_rfl) (hK _ _ ⟨trivial, ?_⟩)
    clear hi hK K'
    obtain ⟨V2, hV2⟩ : ∃ W, World.alloc V1 (.cells #[.int .u8 c.toNat] 5) = W := ⟨_, rfl⟩
    obtain ⟨bc, hbc⟩ : ∃ b, V1.heap.size = b := ⟨_, rfl⟩
    have CV2 := Lib.hid (show V2.heap[bc]? = some (.cells #[.int .u8 c.toNat] 5 (0, 0)) from hbc ▸ hV2 ▸ heap_alloc_new V1 _)
    have BV2 := Lib.hid (show Below w.heap.size w V2 from hV2 ▸ BV1.out.alloc BV1.out.size _)
    have PV2 := Lib.hid (show V2.heap[bi]? = some (.cells zer 25 (0, 0)) from hV2 ▸ (Below.heap_alloc V1 _ _ (lt_of_heap PV1.out)).trans PV1.out)
    have LV2 := LV1
    rw [hV2, hbc]
    clear hV2 hbc
    simp only [Act.put, List.getElem_toArray, List.getElem_cons_succ, List.getElem_cons_zero, List.setIfInBounds_toArray, List.set_cons_zero, List.set_cons_succ]
    refine wpAnyH_all (rs := [5]) (by kernel_rfl) (by decide) (fun i hi => ?_)
    obtain rfl : i = 5 := by simpa using hi
    refine wpOp_step rfl (fun K' hK => ?_)
    rw [if_pos (by rfl)]
    refine conv_wp (.tmp 50) rfl (B := bc) (c := c) (by kernel_rfl) (cell_of (o := 0) CV2.out rfl) (hK _ _ ⟨trivial, ?_⟩)
    clear hi hK K'
    simp only [Act.put, List.getElem_toArray, List.getElem_cons_succ, List.getElem_cons_zero, List.setIfInBounds_toArray, List.set_cons_zero, List.set_cons_succ]
    refine wpAnyH_take (i := 6) (v := ?v31) rfl (by kernel_rfl) (by kernel_rfl) (by kernel_rfl) (fun _ _ _ h => h) (Or.inl ⟨by rfl, ?y31⟩) trivial ?r31
    case y31 => (intro W hW; go_simp; try rfl)
    simp only [Act.put, List.getElem_toArray, List.getElem_cons_succ, List.getElem_cons_zero, List.setIfInBounds_toArray, List.set_cons_zero, List.set_cons_succ]
    refine wpAnyH_take (i := 11) (v := ?v32) rfl (by kernel_rfl) (by kernel_rfl) (by kernel_rfl) (fun _ _ _ h => h) (Or.inl ⟨by rfl, ?y32⟩) trivial ?r32
    case y32 => (intro W hW; go_simp; try rfl)
    simp only [Act.put, List.getElem_toArray, List.getElem_cons_succ, List.getElem_cons_zero, List.setIfInBounds_toArray, List.set_cons_zero, List.set_cons_succ]
    refine wpAnyH_all (rs := [12]) (by kernel_rfl) (by decide) (fun i hi => ?_)
    obtain rfl : i = 12 := by simpa using hi
    refine wpOp_step rfl (fun K' hK => ?_)
    rw [if_pos (by rfl)]
    refine call20_wp (.tmp 57) rfl (s := Z) (Eq.trans (b := Value.string (T.extract 0 k ++ ⟨#[c]⟩ ++ T.extract (k + 1) T.size)) (by kernel_rfl) (congrArg Value.string HZZ.out)) (HQ.out _ BV2.out) (fun V3 xa xc hx hb => hK _ _ ⟨trivial, ?_⟩)
    clear hi hK K' hx
    have BV3 := Lib.hid (BV2.out.trans (hb.mono BV2.out.size))
    have PV3 := Lib.hid ((hb.block _ (lt_of_heap PV2.out)).trans PV2.out)
    have LV3 := LV2
    clear hb
    simp only [Act.put, List.getElem_toArray, List.getElem_cons_succ, List.getElem_cons_zero, List.setIfInBounds_toArray, List.set_cons_zero, List.set_cons_succ]
    refine wpAnyH_take (i := 13) (v := ?v33) rfl (by kernel_rfl) (by kernel_rfl) (by kernel_rfl) (fun _ _ _ h => h) (Or.inl ⟨by rfl, ?y33⟩) trivial ?r33
    case y33 => (intro W hW; go_simp; try rfl)
    simp only [Act.put, List.getElem_toArray, List.getElem_cons_succ, List.getElem_cons_zero, List.setIfInBounds_toArray, List.set_cons_zero, List.set_cons_succ]
    refine wpAnyH_take (i := 14) (v := ?v34) rfl (by kernel_rfl) (by kernel_rfl) (by kernel_rfl) (fun _ _ _ h => h) (Or.inl ⟨by rfl, ?y34⟩) trivial ?r34
    case y34 => (intro W hW; go_simp; try rfl)
    simp only [Act.put, List.getElem_toArray, List.getElem_cons_succ, List.getElem_cons_zero, List.setIfInBounds_toArray, List.set_cons_zero, List.set_cons_succ]
    refine wpAnyH_take (i := 15) (v := ?v35) rfl (by kernel_rfl) (by kernel_rfl) (by kernel_rfl) (fun _ _ _ h => h) (Or.inl ⟨by rfl, ?y35⟩) trivial ?r35
    case y35 => (intro W hW; go_simp; try rfl)
    simp only [Act.put, List.getElem_toArray, List.getElem_cons_succ, List.getElem_cons_zero, List.setIfInBounds_toArray, List.set_cons_zero, List.set_cons_succ]
    refine wpAnyH_take (i := 16) (v := ?v36) rfl (by kernel_rfl) (by kernel_rfl) (by kernel_rfl) (fun _ _ _ h => h) (Or.inl ⟨by rfl, ?y36⟩) trivial ?r36
    case y36 => (intro W hW; go_simp; try rfl)
    simp only [Act.put, List.getElem_toArray, List.getElem_cons_succ, List.getElem_cons_zero, List.setIfInBounds_toArray, List.set_cons_zero, List.set_cons_succ]
    refine wpAnyH_all (rs := [18]) (by kernel_rfl) (by decide) (fun i hi => ?_)
    obtain rfl : i = 18 := by simpa using hi
    refine wpOp_step rfl (fun K' hK => ?_)
    rw [if_pos (by rfl)]
    refine st_wp (.tmp 8) (.tmp 59) rfl rfl (p := bi) (st := (t : Int)) (xa := xa) (n := mm) (xc := xc) (by kernel_rfl) (by kernel_rfl) PV3.out (fun W9 hb9 => hK _ _ ⟨trivial, ?_⟩)
    have B9 := Lib.hid (BV3.out.trans (hb9.mono LV3.out))
    clear hi hK K' hb9
    refine wpAnyH_take (i := 19) (v := ?v37) rfl (by kernel_rfl) (by kernel_rfl) (by kernel_rfl) (fun _ _ _ h => h) (Or.inl ⟨by rfl, ?y37⟩) trivial ?r37
    case y37 => (intro W hW; go_simp; try rfl)
    simp only [Act.put, List.getElem_toArray, List.getElem_cons_succ, List.getElem_cons_zero, List.setIfInBounds_toArray, List.set_cons_zero, List.set_cons_succ]
    refine wpAnyH_take (i := 20) (v := ?v38) rfl (by kernel_rfl) (by kernel_rfl) (by kernel_rfl) (fun _ _ _ h => h) (Or.inl ⟨by rfl, ?y38⟩) trivial ?r38
    case y38 => (intro W hW; go_simp; try rfl)
    simp only [Act.put, List.getElem_toArray, List.getElem_cons_succ, List.getElem_cons_zero, List.setIfInBounds_toArray, List.set_cons_zero, List.set_cons_succ]
    refine wpAnyH_done (by kernel_rfl) ?_ _
    go_wp2_with (go_at_call 10; refine (HAW.out _ B9.out).mono ?_; rintro e w10 ⟨rfl, hb10⟩; have HBX := Lib.hid (B9.out.trans (hb10.mono B9.out.size)); clear hb10)
    go_ret
    exact ⟨rfl, HBX.out⟩
end Go.Proofs.YtcilhippjiichaaDoor
