/-
  What the reference's more answers of a segment's place. No condition but lengths.
-/
import Derived.Test.YtcilhippjiichaaDoorRfD
namespace Go.Proofs.YtcilhippjiichaaDoor
open Go.RowKit Go.Maps S02
set_option maxHeartbeats 16000000 in
set_option maxRecDepth 100000 in
theorem more_1_one {w : World} {sa : Option Addr} {sc st kl al nl cl ml a nb c : Nat} {AL A : Option Addr} {l : List (Nat × List UInt8)} {bs : List UInt8} (hs : SgR w (.slice sa 0 sc) l) (hln : l.length = 0) (_hn : 0 ≤ 1000) (hd : ByR w (.slice A nb c) bs) (hbs : bs.length = nb) (hb : nb ≤ 1000) (ha : a < 4294967296) (_hal : al < 4294967296) (_hnl : nl ≤ 1000) (_hsl : ∀ p ∈ l, p.1 + p.2.length ≤ 16384) (hkl : kl ≠ 3) (S : Nat) (hS : RM.sm a bs = S) (hfar : ¬ 16384 < a + nb) :
    Calls Tryd.prog 37 #[.agg #[.int .u32 st, .slice sa 0 sc], .agg #[.int .i64 kl, .int .u32 al, .slice AL nl cl, .int .u8 ml], .agg #[.int .i64 1, .int .u32 a, .slice A nb c, .int .u8 S]] w fun e w' => e = .returned (.int .i64 (RM.moK kl al nl l 1 a bs S)) ∧ Below w.heap.size w w' := by
  have HE := Lib.hid (show RM.moK kl al nl l 1 a bs S = 0 by unfold RM.moK; rw [if_neg (by omega), if_neg (by omega)]; rw [if_neg (by omega), if_neg (by omega)]; rw [if_neg (fun h => by omega), if_neg (by omega)]; rw [if_neg (fun h => h.2.1 (List.eq_nil_of_length_eq_zero hln))])
  have hkl3 : ((kl : Int) == 3) = false := by simp; omega
  have HSO := Lib.hid (fun (W : World) (h : ByR W (.slice A nb c) bs) => sumOf_r h ha (by omega) hS)
  have hfar' : ¬ (16384 : Int) < (a : Int) + nb := by omega
  clear hfar
  clear hS hkl

  have HZ := Lib.hid (MZ.start w #[.int .u32 st, .slice sa 0 sc] #[.int .i64 kl, .int .u32 al, .slice AL nl cl, .int .u8 ml] #[.int .i64 1, .int .u32 a, .slice A nb c, .int .u8 S])
  obtain ⟨W0, hW0⟩ : ∃ W0, (((w.alloc (.cells #[.int .u32 st, .slice sa 0 sc] 25)).alloc (.cells #[.int .i64 kl, .int .u32 al, .slice AL nl cl, .int .u8 ml] 77)).alloc (.cells #[.int .i64 1, .int .u32 a, .slice A nb c, .int .u8 S] 77)) = W0 := ⟨_, rfl⟩
  rw [hW0] at HZ
  have HDB := Lib.hid (hd.below HZ.out.old)
  have HSG := Lib.hid (hs.below HZ.out.old)
  have HBS := Lib.hid hbs
  have HLN := Lib.hid hln
  clear hd hs hbs hln _hsl
  go_enter Tryd.func37, Tryd.ntmps37
  go_upto_region 1 with fail
  try rw [hW0]
  clear hW0
  have i1 := cell_of (o := 1) HZ.out.iz rfl
  have l0 := cell_of (o := 0) HZ.out.lz rfl
  have l1 := cell_of (o := 1) HZ.out.lz rfl
  have l2 := cell_of (o := 2) HZ.out.lz rfl
  have x0 := cell_of (o := 0) HZ.out.xz rfl
  have x1 := cell_of (o := 1) HZ.out.xz rfl
  have x2 := cell_of (o := 2) HZ.out.xz rfl
  have x3 := cell_of (o := 3) HZ.out.xz rfl
  go_upto_region 5 with fail
  have HS := Lib.hid (show W0.cell? ⟨w.heap.size + 2, 1, none⟩ = some (.int .u32 a) ∧ W0.cell? ⟨w.heap.size + 2, 2, none⟩ = some (.slice A nb c) ∧ W0.cell? ⟨w.heap.size + 2, 3, none⟩ = some (.int .u8 S) ∧ W0.heap.size ≤ W0.heap.size ∧ Hid (Below W0.heap.size W0 W0) from ⟨x1, x2, x3, Nat.le_refl _, Lib.hid (Below.refl _ _)⟩)
  clear i1 l0 l1 l2 x0 x1 x2 x3
  go_region_held3 (fun v => v.cell? ⟨w.heap.size + 2, 1, none⟩ = some (.int .u32 a) ∧ v.cell? ⟨w.heap.size + 2, 2, none⟩ = some (.slice A nb c) ∧ v.cell? ⟨w.heap.size + 2, 3, none⟩ = some (.int .u8 S) ∧ W0.heap.size ≤ v.heap.size ∧ Hid (Below W0.heap.size W0 v)) (first | exact f3_drew HS.out | exact f3_call (f3_drew HS.out) hb4)
    (first | (go_at_call 31; refine (HSO.out _ (HDB.out.below (f3_end (f3_drew HS.out)))).mono ?_; rintro e w4 ⟨rfl, hb4⟩))
  all_goals
    rename_i hHeld
    have HZ6 := Lib.hid (HZ.out.below (f3_end hHeld))
    have HSG6 := Lib.hid (HSG.out.below (f3_end hHeld))
    clear hHeld
    have i1 := cell_of (o := 1) HZ6.out.iz rfl
    have x0 := cell_of (o := 0) HZ6.out.xz rfl
    have x1 := cell_of (o := 1) HZ6.out.xz rfl
    have x2 := cell_of (o := 2) HZ6.out.xz rfl
    go_wp2
    go_ret
    exact ⟨S02.ret_int HE.out.symm, HZ6.out.old⟩
set_option maxHeartbeats 16000000 in
set_option maxRecDepth 100000 in
theorem more_1_low {w : World} {sa : Option Addr} {m sc st kl al nl cl ml a nb c : Nat} {AL A : Option Addr} {l : List (Nat × List UInt8)} {bs : List UInt8} (hs : SgR w (.slice sa (m + 1) sc) l) (hln : l.length = (m + 1)) (hn : (m + 1) ≤ 1000) (hd : ByR w (.slice A nb c) bs) (hbs : bs.length = nb) (hb : nb ≤ 1000) (ha : a < 4294967296) (_hal : al < 4294967296) (_hnl : nl ≤ 1000) (hsl : ∀ p ∈ l, p.1 + p.2.length ≤ 16384) (hkl : kl ≠ 3) (S : Nat) (hS : RM.sm a bs = S) (hm : m ≠ 63) (hfar : ¬ 16384 < a + nb) (l' : List (Nat × List UInt8)) (ea : Nat) (eb : List UInt8) (hl : l = l' ++ [(ea, eb)]) (hlow : a < ea + eb.length) :
    Calls Tryd.prog 37 #[.agg #[.int .u32 st, .slice sa (m + 1) sc], .agg #[.int .i64 kl, .int .u32 al, .slice AL nl cl, .int .u8 ml], .agg #[.int .i64 1, .int .u32 a, .slice A nb c, .int .u8 S]] w fun e w' => e = .returned (.int .i64 (RM.moK kl al nl l 1 a bs S)) ∧ Below w.heap.size w w' := by
  have HE := Lib.hid (show RM.moK kl al nl l 1 a bs S = 7 by unfold RM.moK; rw [if_neg (by omega), if_neg (by omega)]; rw [if_neg (by omega), if_neg (by omega)]; rw [if_neg (fun h => by omega), if_neg (by omega)]; rw [if_pos ⟨rfl, by rw [hl]; simp, by rw [hl, RM.en_snoc]; exact hlow⟩])
  have hkl3 : ((kl : Int) == 3) = false := by simp; omega
  have HSO := Lib.hid (fun (W : World) (h : ByR W (.slice A nb c) bs) => sumOf_r h ha (by omega) hS)
  have hfar' : ¬ (16384 : Int) < (a : Int) + nb := by omega
  have HP := Lib.hid (show l[m]? = some (ea, eb) by
    rw [hl, List.length_append, List.length_singleton] at hln
    rw [hl, show m = l'.length by omega]
    simp)
  have hse : ea + eb.length ≤ 16384 := hsl (ea, eb) (by rw [hl]; simp)
  have hm64 : ((m : Int) + 1 == 64) = false := by simp; omega
  clear hfar hm hl
  clear hS hkl

  have HZ := Lib.hid (MZ.start w #[.int .u32 st, .slice sa (m + 1) sc] #[.int .i64 kl, .int .u32 al, .slice AL nl cl, .int .u8 ml] #[.int .i64 1, .int .u32 a, .slice A nb c, .int .u8 S])
  obtain ⟨W0, hW0⟩ : ∃ W0, (((w.alloc (.cells #[.int .u32 st, .slice sa (m + 1) sc] 25)).alloc (.cells #[.int .i64 kl, .int .u32 al, .slice AL nl cl, .int .u8 ml] 77)).alloc (.cells #[.int .i64 1, .int .u32 a, .slice A nb c, .int .u8 S] 77)) = W0 := ⟨_, rfl⟩
  rw [hW0] at HZ
  have HDB := Lib.hid (hd.below HZ.out.old)
  have HSG := Lib.hid (hs.below HZ.out.old)
  have HBS := Lib.hid hbs
  have HLN := Lib.hid hln
  clear hd hs hbs hln hsl
  go_enter Tryd.func37, Tryd.ntmps37
  go_upto_region 1 with fail
  try rw [hW0]
  clear hW0
  have i1 := cell_of (o := 1) HZ.out.iz rfl
  have l0 := cell_of (o := 0) HZ.out.lz rfl
  have l1 := cell_of (o := 1) HZ.out.lz rfl
  have l2 := cell_of (o := 2) HZ.out.lz rfl
  have x0 := cell_of (o := 0) HZ.out.xz rfl
  have x1 := cell_of (o := 1) HZ.out.xz rfl
  have x2 := cell_of (o := 2) HZ.out.xz rfl
  have x3 := cell_of (o := 3) HZ.out.xz rfl
  go_upto_region 5 with fail
  have HS := Lib.hid (show W0.cell? ⟨w.heap.size + 2, 1, none⟩ = some (.int .u32 a) ∧ W0.cell? ⟨w.heap.size + 2, 2, none⟩ = some (.slice A nb c) ∧ W0.cell? ⟨w.heap.size + 2, 3, none⟩ = some (.int .u8 S) ∧ W0.heap.size ≤ W0.heap.size ∧ Hid (Below W0.heap.size W0 W0) from ⟨x1, x2, x3, Nat.le_refl _, Lib.hid (Below.refl _ _)⟩)
  clear i1 l0 l1 l2 x0 x1 x2 x3
  go_region_held3 (fun v => v.cell? ⟨w.heap.size + 2, 1, none⟩ = some (.int .u32 a) ∧ v.cell? ⟨w.heap.size + 2, 2, none⟩ = some (.slice A nb c) ∧ v.cell? ⟨w.heap.size + 2, 3, none⟩ = some (.int .u8 S) ∧ W0.heap.size ≤ v.heap.size ∧ Hid (Below W0.heap.size W0 v)) (first | exact f3_drew HS.out | exact f3_call (f3_drew HS.out) hb4)
    (first | (go_at_call 31; refine (HSO.out _ (HDB.out.below (f3_end (f3_drew HS.out)))).mono ?_; rintro e w4 ⟨rfl, hb4⟩))
  all_goals
    rename_i hHeld
    have HZ6 := Lib.hid (HZ.out.below (f3_end hHeld))
    have HSG6 := Lib.hid (HSG.out.below (f3_end hHeld))
    clear hHeld
    have i1 := cell_of (o := 1) HZ6.out.iz rfl
    have x0 := cell_of (o := 0) HZ6.out.xz rfl
    have x1 := cell_of (o := 1) HZ6.out.xz rfl
    have x2 := cell_of (o := 2) HZ6.out.xz rfl
    obtain ⟨g, o, rfl, z1, da, dc, z2, -⟩ := sg_at HSG6.out HP.out
    obtain ⟨em, hem⟩ : ∃ em, eb.length = em := ⟨_, rfl⟩
    rw [hem] at z2 hse hlow
    clear hem
    go_upto_region 15 with fail
    have HN7 := Lib.hid (heap_alloc_new w4 (.cells #[.int .u32 ea, .slice da em dc] 51))
    have HZ7 := Lib.hid (HZ6.out.below (below_one w4 (.cells #[.int .u32 ea, .slice da em dc] 51)))
    obtain ⟨W7, hW7⟩ : ∃ W7, w4.alloc (.cells #[.int .u32 ea, .slice da em dc] 51) = W7 := ⟨_, rfl⟩
    obtain ⟨Q, hQ⟩ : ∃ Q, w4.heap.size = Q := ⟨_, rfl⟩
    rw [hW7] at HN7 HZ7 ⊢
    rw [hQ] at HN7 ⊢
    clear hW7 hQ i1 x0 x1 x2 z1 z2
    have x1 := cell_of (o := 1) HZ7.out.xz rfl
    have q0 := cell_of (o := 0) HN7.out rfl
    have q1 := cell_of (o := 1) HN7.out rfl
    have hlow' : (a : Int) < (ea : Int) + em := by omega
    clear hlow
    go_wp2
    go_ret
    exact ⟨S02.ret_int HE.out.symm, HZ7.out.old⟩
set_option maxHeartbeats 16000000 in
set_option maxRecDepth 100000 in
theorem more_1_yes {w : World} {sa : Option Addr} {m sc st kl al nl cl ml a nb c : Nat} {AL A : Option Addr} {l : List (Nat × List UInt8)} {bs : List UInt8} (hs : SgR w (.slice sa (m + 1) sc) l) (hln : l.length = (m + 1)) (hn : (m + 1) ≤ 1000) (hd : ByR w (.slice A nb c) bs) (hbs : bs.length = nb) (hb : nb ≤ 1000) (ha : a < 4294967296) (_hal : al < 4294967296) (_hnl : nl ≤ 1000) (hsl : ∀ p ∈ l, p.1 + p.2.length ≤ 16384) (hkl : kl ≠ 3) (S : Nat) (hS : RM.sm a bs = S) (hm : m ≠ 63) (hfar : ¬ 16384 < a + nb) (l' : List (Nat × List UInt8)) (ea : Nat) (eb : List UInt8) (hl : l = l' ++ [(ea, eb)]) (hlow : ¬ a < ea + eb.length) :
    Calls Tryd.prog 37 #[.agg #[.int .u32 st, .slice sa (m + 1) sc], .agg #[.int .i64 kl, .int .u32 al, .slice AL nl cl, .int .u8 ml], .agg #[.int .i64 1, .int .u32 a, .slice A nb c, .int .u8 S]] w fun e w' => e = .returned (.int .i64 (RM.moK kl al nl l 1 a bs S)) ∧ Below w.heap.size w w' := by
  have HE := Lib.hid (show RM.moK kl al nl l 1 a bs S = 0 by unfold RM.moK; rw [if_neg (by omega), if_neg (by omega)]; rw [if_neg (by omega), if_neg (by omega)]; rw [if_neg (fun h => by omega), if_neg (by omega)]; rw [if_neg (fun h => hlow (by have := h.2.2; rw [hl, RM.en_snoc] at this; exact this))])
  have hkl3 : ((kl : Int) == 3) = false := by simp; omega
  have HSO := Lib.hid (fun (W : World) (h : ByR W (.slice A nb c) bs) => sumOf_r h ha (by omega) hS)
  have hfar' : ¬ (16384 : Int) < (a : Int) + nb := by omega
  have HP := Lib.hid (show l[m]? = some (ea, eb) by
    rw [hl, List.length_append, List.length_singleton] at hln
    rw [hl, show m = l'.length by omega]
    simp)
  have hse : ea + eb.length ≤ 16384 := hsl (ea, eb) (by rw [hl]; simp)
  have hm64 : ((m : Int) + 1 == 64) = false := by simp; omega
  clear hfar hm hl
  clear hS hkl

  have HZ := Lib.hid (MZ.start w #[.int .u32 st, .slice sa (m + 1) sc] #[.int .i64 kl, .int .u32 al, .slice AL nl cl, .int .u8 ml] #[.int .i64 1, .int .u32 a, .slice A nb c, .int .u8 S])
  obtain ⟨W0, hW0⟩ : ∃ W0, (((w.alloc (.cells #[.int .u32 st, .slice sa (m + 1) sc] 25)).alloc (.cells #[.int .i64 kl, .int .u32 al, .slice AL nl cl, .int .u8 ml] 77)).alloc (.cells #[.int .i64 1, .int .u32 a, .slice A nb c, .int .u8 S] 77)) = W0 := ⟨_, rfl⟩
  rw [hW0] at HZ
  have HDB := Lib.hid (hd.below HZ.out.old)
  have HSG := Lib.hid (hs.below HZ.out.old)
  have HBS := Lib.hid hbs
  have HLN := Lib.hid hln
  clear hd hs hbs hln hsl
  go_enter Tryd.func37, Tryd.ntmps37
  go_upto_region 1 with fail
  try rw [hW0]
  clear hW0
  have i1 := cell_of (o := 1) HZ.out.iz rfl
  have l0 := cell_of (o := 0) HZ.out.lz rfl
  have l1 := cell_of (o := 1) HZ.out.lz rfl
  have l2 := cell_of (o := 2) HZ.out.lz rfl
  have x0 := cell_of (o := 0) HZ.out.xz rfl
  have x1 := cell_of (o := 1) HZ.out.xz rfl
  have x2 := cell_of (o := 2) HZ.out.xz rfl
  have x3 := cell_of (o := 3) HZ.out.xz rfl
  go_upto_region 5 with fail
  have HS := Lib.hid (show W0.cell? ⟨w.heap.size + 2, 1, none⟩ = some (.int .u32 a) ∧ W0.cell? ⟨w.heap.size + 2, 2, none⟩ = some (.slice A nb c) ∧ W0.cell? ⟨w.heap.size + 2, 3, none⟩ = some (.int .u8 S) ∧ W0.heap.size ≤ W0.heap.size ∧ Hid (Below W0.heap.size W0 W0) from ⟨x1, x2, x3, Nat.le_refl _, Lib.hid (Below.refl _ _)⟩)
  clear i1 l0 l1 l2 x0 x1 x2 x3
  go_region_held3 (fun v => v.cell? ⟨w.heap.size + 2, 1, none⟩ = some (.int .u32 a) ∧ v.cell? ⟨w.heap.size + 2, 2, none⟩ = some (.slice A nb c) ∧ v.cell? ⟨w.heap.size + 2, 3, none⟩ = some (.int .u8 S) ∧ W0.heap.size ≤ v.heap.size ∧ Hid (Below W0.heap.size W0 v)) (first | exact f3_drew HS.out | exact f3_call (f3_drew HS.out) hb4)
    (first | (go_at_call 31; refine (HSO.out _ (HDB.out.below (f3_end (f3_drew HS.out)))).mono ?_; rintro e w4 ⟨rfl, hb4⟩))
  all_goals
    rename_i hHeld
    have HZ6 := Lib.hid (HZ.out.below (f3_end hHeld))
    have HSG6 := Lib.hid (HSG.out.below (f3_end hHeld))
    clear hHeld
    have i1 := cell_of (o := 1) HZ6.out.iz rfl
    have x0 := cell_of (o := 0) HZ6.out.xz rfl
    have x1 := cell_of (o := 1) HZ6.out.xz rfl
    have x2 := cell_of (o := 2) HZ6.out.xz rfl
    obtain ⟨g, o, rfl, z1, da, dc, z2, -⟩ := sg_at HSG6.out HP.out
    obtain ⟨em, hem⟩ : ∃ em, eb.length = em := ⟨_, rfl⟩
    rw [hem] at z2 hse hlow
    clear hem
    go_upto_region 15 with fail
    have HN7 := Lib.hid (heap_alloc_new w4 (.cells #[.int .u32 ea, .slice da em dc] 51))
    have HZ7 := Lib.hid (HZ6.out.below (below_one w4 (.cells #[.int .u32 ea, .slice da em dc] 51)))
    obtain ⟨W7, hW7⟩ : ∃ W7, w4.alloc (.cells #[.int .u32 ea, .slice da em dc] 51) = W7 := ⟨_, rfl⟩
    obtain ⟨Q, hQ⟩ : ∃ Q, w4.heap.size = Q := ⟨_, rfl⟩
    rw [hW7] at HN7 HZ7 ⊢
    rw [hQ] at HN7 ⊢
    clear hW7 hQ i1 x0 x1 x2 z1 z2
    have x1 := cell_of (o := 1) HZ7.out.xz rfl
    have q0 := cell_of (o := 0) HN7.out rfl
    have q1 := cell_of (o := 1) HN7.out rfl
    have hlow' : ¬ (a : Int) < (ea : Int) + em := by omega
    clear hlow
    go_wp2
    go_ret
    exact ⟨S02.ret_int HE.out.symm, HZ7.out.old⟩
set_option maxHeartbeats 16000000 in
set_option maxRecDepth 100000 in
theorem more_2_far {w : World} {sa : Option Addr} {n sc st kl al cl ml a nb c : Nat} {AL A : Option Addr} {l : List (Nat × List UInt8)} {bs : List UInt8} (hs : SgR w (.slice sa n sc) l) (hln : l.length = n) (_hn : n ≤ 1000) (hd : ByR w (.slice A nb c) bs) (hbs : bs.length = nb) (hb : nb ≤ 1000) (ha : a < 4294967296) (_hal : al < 4294967296) (_hnl : 16 ≤ 1000) (_hsl : ∀ p ∈ l, p.1 + p.2.length ≤ 16384) (hkl : kl ≠ 3) (hk0 : kl ≠ 0) (hap : a = (al + 16) % 4294967296) (S : Nat) (hS : RM.sm a bs = S) (hfar : 16384 < a + nb) :
    Calls Tryd.prog 37 #[.agg #[.int .u32 st, .slice sa n sc], .agg #[.int .i64 kl, .int .u32 al, .slice AL 16 cl, .int .u8 ml], .agg #[.int .i64 2, .int .u32 a, .slice A nb c, .int .u8 S]] w fun e w' => e = .returned (.int .i64 (RM.moK kl al 16 l 2 a bs S)) ∧ Below w.heap.size w w' := by
  have HE := Lib.hid (show RM.moK kl al 16 l 2 a bs S = 3 by unfold RM.moK; rw [if_neg (by omega), if_neg (fun h => by omega)]; rw [if_neg (by omega), if_neg (by omega)]; rw [if_neg (by omega), if_pos (by omega)])
  have hkl3 : ((kl : Int) == 3) = false := by simp; omega
  have hkl0 : ((kl : Int) == 0) = false := by simp; omega
  have hap' : ((a : Int) == ((al : Int) + 16) % 4294967296) = true := by simp; omega
  have HSO := Lib.hid (fun (W : World) (h : ByR W (.slice A nb c) bs) => sumOf_r h ha (by omega) hS)
  have hfar' : (16384 : Int) < (a : Int) + nb := by omega
  clear hfar
  clear hS hkl hk0 hap

  have HZ := Lib.hid (MZ.start w #[.int .u32 st, .slice sa n sc] #[.int .i64 kl, .int .u32 al, .slice AL 16 cl, .int .u8 ml] #[.int .i64 2, .int .u32 a, .slice A nb c, .int .u8 S])
  obtain ⟨W0, hW0⟩ : ∃ W0, (((w.alloc (.cells #[.int .u32 st, .slice sa n sc] 25)).alloc (.cells #[.int .i64 kl, .int .u32 al, .slice AL 16 cl, .int .u8 ml] 77)).alloc (.cells #[.int .i64 2, .int .u32 a, .slice A nb c, .int .u8 S] 77)) = W0 := ⟨_, rfl⟩
  rw [hW0] at HZ
  have HDB := Lib.hid (hd.below HZ.out.old)
  have HSG := Lib.hid (hs.below HZ.out.old)
  have HBS := Lib.hid hbs
  have HLN := Lib.hid hln
  clear hd hs hbs hln _hsl
  go_enter Tryd.func37, Tryd.ntmps37
  go_upto_region 1 with fail
  try rw [hW0]
  clear hW0
  have i1 := cell_of (o := 1) HZ.out.iz rfl
  have l0 := cell_of (o := 0) HZ.out.lz rfl
  have l1 := cell_of (o := 1) HZ.out.lz rfl
  have l2 := cell_of (o := 2) HZ.out.lz rfl
  have x0 := cell_of (o := 0) HZ.out.xz rfl
  have x1 := cell_of (o := 1) HZ.out.xz rfl
  have x2 := cell_of (o := 2) HZ.out.xz rfl
  have x3 := cell_of (o := 3) HZ.out.xz rfl
  go_upto_region 5 with fail
  have HS := Lib.hid (show W0.cell? ⟨w.heap.size + 2, 1, none⟩ = some (.int .u32 a) ∧ W0.cell? ⟨w.heap.size + 2, 2, none⟩ = some (.slice A nb c) ∧ W0.cell? ⟨w.heap.size + 2, 3, none⟩ = some (.int .u8 S) ∧ W0.heap.size ≤ W0.heap.size ∧ Hid (Below W0.heap.size W0 W0) from ⟨x1, x2, x3, Nat.le_refl _, Lib.hid (Below.refl _ _)⟩)
  clear i1 l0 l1 l2 x0 x1 x2 x3
  go_region_held3 (fun v => v.cell? ⟨w.heap.size + 2, 1, none⟩ = some (.int .u32 a) ∧ v.cell? ⟨w.heap.size + 2, 2, none⟩ = some (.slice A nb c) ∧ v.cell? ⟨w.heap.size + 2, 3, none⟩ = some (.int .u8 S) ∧ W0.heap.size ≤ v.heap.size ∧ Hid (Below W0.heap.size W0 v)) (first | exact f3_drew HS.out | exact f3_call (f3_drew HS.out) hb4)
    (first | (go_at_call 31; refine (HSO.out _ (HDB.out.below (f3_end (f3_drew HS.out)))).mono ?_; rintro e w4 ⟨rfl, hb4⟩))
  all_goals
    rename_i hHeld
    have HZ6 := Lib.hid (HZ.out.below (f3_end hHeld))
    have HSG6 := Lib.hid (HSG.out.below (f3_end hHeld))
    clear hHeld
    have i1 := cell_of (o := 1) HZ6.out.iz rfl
    have x0 := cell_of (o := 0) HZ6.out.xz rfl
    have x1 := cell_of (o := 1) HZ6.out.xz rfl
    have x2 := cell_of (o := 2) HZ6.out.xz rfl
    go_wp2
    go_ret
    exact ⟨S02.ret_int HE.out.symm, HZ6.out.old⟩
set_option maxHeartbeats 16000000 in
set_option maxRecDepth 100000 in
theorem more_2_yes {w : World} {sa : Option Addr} {n sc st kl al cl ml a nb c : Nat} {AL A : Option Addr} {l : List (Nat × List UInt8)} {bs : List UInt8} (hs : SgR w (.slice sa n sc) l) (hln : l.length = n) (_hn : n ≤ 1000) (hd : ByR w (.slice A nb c) bs) (hbs : bs.length = nb) (hb : nb ≤ 1000) (ha : a < 4294967296) (_hal : al < 4294967296) (_hnl : 16 ≤ 1000) (_hsl : ∀ p ∈ l, p.1 + p.2.length ≤ 16384) (hkl : kl ≠ 3) (hk0 : kl ≠ 0) (hap : a = (al + 16) % 4294967296) (S : Nat) (hS : RM.sm a bs = S) (hfar : ¬ 16384 < a + nb) :
    Calls Tryd.prog 37 #[.agg #[.int .u32 st, .slice sa n sc], .agg #[.int .i64 kl, .int .u32 al, .slice AL 16 cl, .int .u8 ml], .agg #[.int .i64 2, .int .u32 a, .slice A nb c, .int .u8 S]] w fun e w' => e = .returned (.int .i64 (RM.moK kl al 16 l 2 a bs S)) ∧ Below w.heap.size w w' := by
  have HE := Lib.hid (show RM.moK kl al 16 l 2 a bs S = 0 by unfold RM.moK; rw [if_neg (by omega), if_neg (fun h => by omega)]; rw [if_neg (by omega), if_neg (by omega)]; rw [if_neg (by omega), if_neg (by omega), if_neg (by omega)])
  have hkl3 : ((kl : Int) == 3) = false := by simp; omega
  have hkl0 : ((kl : Int) == 0) = false := by simp; omega
  have hap' : ((a : Int) == ((al : Int) + 16) % 4294967296) = true := by simp; omega
  have HSO := Lib.hid (fun (W : World) (h : ByR W (.slice A nb c) bs) => sumOf_r h ha (by omega) hS)
  have hfar' : ¬ (16384 : Int) < (a : Int) + nb := by omega
  clear hfar
  clear hS hkl hk0 hap

  have HZ := Lib.hid (MZ.start w #[.int .u32 st, .slice sa n sc] #[.int .i64 kl, .int .u32 al, .slice AL 16 cl, .int .u8 ml] #[.int .i64 2, .int .u32 a, .slice A nb c, .int .u8 S])
  obtain ⟨W0, hW0⟩ : ∃ W0, (((w.alloc (.cells #[.int .u32 st, .slice sa n sc] 25)).alloc (.cells #[.int .i64 kl, .int .u32 al, .slice AL 16 cl, .int .u8 ml] 77)).alloc (.cells #[.int .i64 2, .int .u32 a, .slice A nb c, .int .u8 S] 77)) = W0 := ⟨_, rfl⟩
  rw [hW0] at HZ
  have HDB := Lib.hid (hd.below HZ.out.old)
  have HSG := Lib.hid (hs.below HZ.out.old)
  have HBS := Lib.hid hbs
  have HLN := Lib.hid hln
  clear hd hs hbs hln _hsl
  go_enter Tryd.func37, Tryd.ntmps37
  go_upto_region 1 with fail
  try rw [hW0]
  clear hW0
  have i1 := cell_of (o := 1) HZ.out.iz rfl
  have l0 := cell_of (o := 0) HZ.out.lz rfl
  have l1 := cell_of (o := 1) HZ.out.lz rfl
  have l2 := cell_of (o := 2) HZ.out.lz rfl
  have x0 := cell_of (o := 0) HZ.out.xz rfl
  have x1 := cell_of (o := 1) HZ.out.xz rfl
  have x2 := cell_of (o := 2) HZ.out.xz rfl
  have x3 := cell_of (o := 3) HZ.out.xz rfl
  go_upto_region 5 with fail
  have HS := Lib.hid (show W0.cell? ⟨w.heap.size + 2, 1, none⟩ = some (.int .u32 a) ∧ W0.cell? ⟨w.heap.size + 2, 2, none⟩ = some (.slice A nb c) ∧ W0.cell? ⟨w.heap.size + 2, 3, none⟩ = some (.int .u8 S) ∧ W0.heap.size ≤ W0.heap.size ∧ Hid (Below W0.heap.size W0 W0) from ⟨x1, x2, x3, Nat.le_refl _, Lib.hid (Below.refl _ _)⟩)
  clear i1 l0 l1 l2 x0 x1 x2 x3
  go_region_held3 (fun v => v.cell? ⟨w.heap.size + 2, 1, none⟩ = some (.int .u32 a) ∧ v.cell? ⟨w.heap.size + 2, 2, none⟩ = some (.slice A nb c) ∧ v.cell? ⟨w.heap.size + 2, 3, none⟩ = some (.int .u8 S) ∧ W0.heap.size ≤ v.heap.size ∧ Hid (Below W0.heap.size W0 v)) (first | exact f3_drew HS.out | exact f3_call (f3_drew HS.out) hb4)
    (first | (go_at_call 31; refine (HSO.out _ (HDB.out.below (f3_end (f3_drew HS.out)))).mono ?_; rintro e w4 ⟨rfl, hb4⟩))
  all_goals
    rename_i hHeld
    have HZ6 := Lib.hid (HZ.out.below (f3_end hHeld))
    have HSG6 := Lib.hid (HSG.out.below (f3_end hHeld))
    clear hHeld
    have i1 := cell_of (o := 1) HZ6.out.iz rfl
    have x0 := cell_of (o := 0) HZ6.out.xz rfl
    have x1 := cell_of (o := 1) HZ6.out.xz rfl
    have x2 := cell_of (o := 2) HZ6.out.xz rfl
    go_wp2
    go_ret
    exact ⟨S02.ret_int HE.out.symm, HZ6.out.old⟩
end Go.Proofs.YtcilhippjiichaaDoor
