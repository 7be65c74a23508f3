/-
  What the reference's more answers behind the sums. No condition but lengths.
-/
import Derived.Test.YtcilhippjiichaaDoorRfC
namespace Go.Proofs.YtcilhippjiichaaDoor
open Go.RowKit Go.Maps S02
theorem sumOf_r {w : World} {a S : Nat} {v : Value} {bs : List UInt8} (h : ByR w v bs) (ha : a < 4294967296) (hl : bs.length ≤ 100000) (hS : RM.sm a bs = S) :
    Calls Tryd.prog 31 #[.int .u32 a, v] w fun e w' => e = .returned (.int .u8 S) ∧ Below w.heap.size w w' := by
  subst hS
  exact rsumOf_any h ha hl
set_option maxHeartbeats 16000000 in
set_option maxRecDepth 100000 in
theorem more_1_sum {w : World} {sa : Option Addr} {n sc st kl al nl cl ml a nb c : Nat} {AL A : Option Addr} {l : List (Nat × List UInt8)} {bs : List UInt8} (hs : SgR w (.slice sa n sc) l) (hln : l.length = n) (_hn : n ≤ 1000) (hd : ByR w (.slice A nb c) bs) (hbs : bs.length = nb) (hb : nb ≤ 1000) (ha : a < 4294967296) (_hal : al < 4294967296) (_hnl : nl ≤ 1000) (_hsl : ∀ p ∈ l, p.1 + p.2.length ≤ 16384) (hkl : kl ≠ 3) (s S : Nat) (hS : RM.sm a bs = S) (hSs : S ≠ s) :
    Calls Tryd.prog 37 #[.agg #[.int .u32 st, .slice sa n sc], .agg #[.int .i64 kl, .int .u32 al, .slice AL nl cl, .int .u8 ml], .agg #[.int .i64 1, .int .u32 a, .slice A nb c, .int .u8 s]] w fun e w' => e = .returned (.int .i64 (RM.moK kl al nl l 1 a bs s)) ∧ Below w.heap.size w w' := by
  have HE := Lib.hid (show RM.moK kl al nl l 1 a bs s = 11 by unfold RM.moK; rw [if_neg (by omega), if_neg (by omega)]; rw [if_pos (by omega)])
  have hkl3 : ((kl : Int) == 3) = false := by simp; omega
  have HSO := Lib.hid (fun (W : World) (h : ByR W (.slice A nb c) bs) => sumOf_r h ha (by omega) hS)
  have hne : ((S : Int) == (s : Int)) = false := by simp; omega
  clear hS hkl hSs

  have HZ := Lib.hid (MZ.start w #[.int .u32 st, .slice sa n sc] #[.int .i64 kl, .int .u32 al, .slice AL nl cl, .int .u8 ml] #[.int .i64 1, .int .u32 a, .slice A nb c, .int .u8 s])
  obtain ⟨W0, hW0⟩ : ∃ W0, (((w.alloc (.cells #[.int .u32 st, .slice sa n sc] 25)).alloc (.cells #[.int .i64 kl, .int .u32 al, .slice AL nl cl, .int .u8 ml] 77)).alloc (.cells #[.int .i64 1, .int .u32 a, .slice A nb c, .int .u8 s] 77)) = W0 := ⟨_, rfl⟩
  rw [hW0] at HZ
  have HDB := Lib.hid (hd.below HZ.out.old)
  have HSG := Lib.hid (hs.below HZ.out.old)
  have HBS := Lib.hid hbs
  have HLN := Lib.hid hln
  clear hd hs hbs hln _hsl
  go_enter Tryd.func37, Tryd.ntmps37
  go_upto_region 1 with fail
  try rw [hW0]
  clear hW0
  have i1 := cell_of (o := 1) HZ.out.iz rfl
  have l0 := cell_of (o := 0) HZ.out.lz rfl
  have l1 := cell_of (o := 1) HZ.out.lz rfl
  have l2 := cell_of (o := 2) HZ.out.lz rfl
  have x0 := cell_of (o := 0) HZ.out.xz rfl
  have x1 := cell_of (o := 1) HZ.out.xz rfl
  have x2 := cell_of (o := 2) HZ.out.xz rfl
  have x3 := cell_of (o := 3) HZ.out.xz rfl
  go_upto_region 5 with fail
  have HS := Lib.hid (show W0.cell? ⟨w.heap.size + 2, 1, none⟩ = some (.int .u32 a) ∧ W0.cell? ⟨w.heap.size + 2, 2, none⟩ = some (.slice A nb c) ∧ W0.cell? ⟨w.heap.size + 2, 3, none⟩ = some (.int .u8 s) ∧ W0.heap.size ≤ W0.heap.size ∧ Hid (Below W0.heap.size W0 W0) from ⟨x1, x2, x3, Nat.le_refl _, Lib.hid (Below.refl _ _)⟩)
  clear i1 l0 l1 l2 x0 x1 x2 x3
  go_region_held3 (fun v => v.cell? ⟨w.heap.size + 2, 1, none⟩ = some (.int .u32 a) ∧ v.cell? ⟨w.heap.size + 2, 2, none⟩ = some (.slice A nb c) ∧ v.cell? ⟨w.heap.size + 2, 3, none⟩ = some (.int .u8 s) ∧ W0.heap.size ≤ v.heap.size ∧ Hid (Below W0.heap.size W0 v)) (first | exact f3_drew HS.out | exact f3_call (f3_drew HS.out) hb4)
    (first | (go_at_call 31; refine (HSO.out _ (HDB.out.below (f3_end (f3_drew HS.out)))).mono ?_; rintro e w4 ⟨rfl, hb4⟩))
  all_goals
    rename_i hHeld
    have HZ6 := Lib.hid (HZ.out.below (f3_end hHeld))
    have HSG6 := Lib.hid (HSG.out.below (f3_end hHeld))
    clear hHeld
    have i1 := cell_of (o := 1) HZ6.out.iz rfl
    have x0 := cell_of (o := 0) HZ6.out.xz rfl
    have x1 := cell_of (o := 1) HZ6.out.xz rfl
    have x2 := cell_of (o := 2) HZ6.out.xz rfl
    go_wp2
    go_ret
    exact ⟨S02.ret_int HE.out.symm, HZ6.out.old⟩
set_option maxHeartbeats 16000000 in
set_option maxRecDepth 100000 in
theorem more_2_sum {w : World} {sa : Option Addr} {n sc st kl al cl ml a nb c : Nat} {AL A : Option Addr} {l : List (Nat × List UInt8)} {bs : List UInt8} (hs : SgR w (.slice sa n sc) l) (hln : l.length = n) (_hn : n ≤ 1000) (hd : ByR w (.slice A nb c) bs) (hbs : bs.length = nb) (hb : nb ≤ 1000) (ha : a < 4294967296) (_hal : al < 4294967296) (_hnl : 16 ≤ 1000) (_hsl : ∀ p ∈ l, p.1 + p.2.length ≤ 16384) (hkl : kl ≠ 3) (hk0 : kl ≠ 0) (hap : a = (al + 16) % 4294967296) (s S : Nat) (hS : RM.sm a bs = S) (hSs : S ≠ s) :
    Calls Tryd.prog 37 #[.agg #[.int .u32 st, .slice sa n sc], .agg #[.int .i64 kl, .int .u32 al, .slice AL 16 cl, .int .u8 ml], .agg #[.int .i64 2, .int .u32 a, .slice A nb c, .int .u8 s]] w fun e w' => e = .returned (.int .i64 (RM.moK kl al 16 l 2 a bs s)) ∧ Below w.heap.size w w' := by
  have HE := Lib.hid (show RM.moK kl al 16 l 2 a bs s = 11 by unfold RM.moK; rw [if_neg (by omega), if_neg (fun h => by omega)]; rw [if_pos (by omega)])
  have hkl3 : ((kl : Int) == 3) = false := by simp; omega
  have hkl0 : ((kl : Int) == 0) = false := by simp; omega
  have hap' : ((a : Int) == ((al : Int) + 16) % 4294967296) = true := by simp; omega
  have HSO := Lib.hid (fun (W : World) (h : ByR W (.slice A nb c) bs) => sumOf_r h ha (by omega) hS)
  have hne : ((S : Int) == (s : Int)) = false := by simp; omega
  clear hS hkl hk0 hap hSs

  have HZ := Lib.hid (MZ.start w #[.int .u32 st, .slice sa n sc] #[.int .i64 kl, .int .u32 al, .slice AL 16 cl, .int .u8 ml] #[.int .i64 2, .int .u32 a, .slice A nb c, .int .u8 s])
  obtain ⟨W0, hW0⟩ : ∃ W0, (((w.alloc (.cells #[.int .u32 st, .slice sa n sc] 25)).alloc (.cells #[.int .i64 kl, .int .u32 al, .slice AL 16 cl, .int .u8 ml] 77)).alloc (.cells #[.int .i64 2, .int .u32 a, .slice A nb c, .int .u8 s] 77)) = W0 := ⟨_, rfl⟩
  rw [hW0] at HZ
  have HDB := Lib.hid (hd.below HZ.out.old)
  have HSG := Lib.hid (hs.below HZ.out.old)
  have HBS := Lib.hid hbs
  have HLN := Lib.hid hln
  clear hd hs hbs hln _hsl
  go_enter Tryd.func37, Tryd.ntmps37
  go_upto_region 1 with fail
  try rw [hW0]
  clear hW0
  have i1 := cell_of (o := 1) HZ.out.iz rfl
  have l0 := cell_of (o := 0) HZ.out.lz rfl
  have l1 := cell_of (o := 1) HZ.out.lz rfl
  have l2 := cell_of (o := 2) HZ.out.lz rfl
  have x0 := cell_of (o := 0) HZ.out.xz rfl
  have x1 := cell_of (o := 1) HZ.out.xz rfl
  have x2 := cell_of (o := 2) HZ.out.xz rfl
  have x3 := cell_of (o := 3) HZ.out.xz rfl
  go_upto_region 5 with fail
  have HS := Lib.hid (show W0.cell? ⟨w.heap.size + 2, 1, none⟩ = some (.int .u32 a) ∧ W0.cell? ⟨w.heap.size + 2, 2, none⟩ = some (.slice A nb c) ∧ W0.cell? ⟨w.heap.size + 2, 3, none⟩ = some (.int .u8 s) ∧ W0.heap.size ≤ W0.heap.size ∧ Hid (Below W0.heap.size W0 W0) from ⟨x1, x2, x3, Nat.le_refl _, Lib.hid (Below.refl _ _)⟩)
  clear i1 l0 l1 l2 x0 x1 x2 x3
  go_region_held3 (fun v => v.cell? ⟨w.heap.size + 2, 1, none⟩ = some (.int .u32 a) ∧ v.cell? ⟨w.heap.size + 2, 2, none⟩ = some (.slice A nb c) ∧ v.cell? ⟨w.heap.size + 2, 3, none⟩ = some (.int .u8 s) ∧ W0.heap.size ≤ v.heap.size ∧ Hid (Below W0.heap.size W0 v)) (first | exact f3_drew HS.out | exact f3_call (f3_drew HS.out) hb4)
    (first | (go_at_call 31; refine (HSO.out _ (HDB.out.below (f3_end (f3_drew HS.out)))).mono ?_; rintro e w4 ⟨rfl, hb4⟩))
  all_goals
    rename_i hHeld
    have HZ6 := Lib.hid (HZ.out.below (f3_end hHeld))
    have HSG6 := Lib.hid (HSG.out.below (f3_end hHeld))
    clear hHeld
    have i1 := cell_of (o := 1) HZ6.out.iz rfl
    have x0 := cell_of (o := 0) HZ6.out.xz rfl
    have x1 := cell_of (o := 1) HZ6.out.xz rfl
    have x2 := cell_of (o := 2) HZ6.out.xz rfl
    go_wp2
    go_ret
    exact ⟨S02.ret_int HE.out.symm, HZ6.out.old⟩
set_option maxHeartbeats 16000000 in
set_option maxRecDepth 100000 in
theorem more_3_sum {w : World} {sa : Option Addr} {n sc st kl al nl cl ml a nb c : Nat} {AL A : Option Addr} {l : List (Nat × List UInt8)} {bs : List UInt8} (hs : SgR w (.slice sa n sc) l) (hln : l.length = n) (_hn : n ≤ 1000) (hd : ByR w (.slice A nb c) bs) (hbs : bs.length = nb) (hb : nb ≤ 1000) (ha : a < 4294967296) (_hal : al < 4294967296) (_hnl : nl ≤ 1000) (_hsl : ∀ p ∈ l, p.1 + p.2.length ≤ 16384) (hkl : kl ≠ 3) (s S : Nat) (hS : RM.sm a bs = S) (hSs : S ≠ s) :
    Calls Tryd.prog 37 #[.agg #[.int .u32 st, .slice sa n sc], .agg #[.int .i64 kl, .int .u32 al, .slice AL nl cl, .int .u8 ml], .agg #[.int .i64 3, .int .u32 a, .slice A nb c, .int .u8 s]] w fun e w' => e = .returned (.int .i64 (RM.moK kl al nl l 3 a bs s)) ∧ Below w.heap.size w w' := by
  have HE := Lib.hid (show RM.moK kl al nl l 3 a bs s = 11 by unfold RM.moK; rw [if_neg (by omega), if_neg (by omega)]; rw [if_pos (by omega)])
  have hkl3 : ((kl : Int) == 3) = false := by simp; omega
  have HSO := Lib.hid (fun (W : World) (h : ByR W (.slice A nb c) bs) => sumOf_r h ha (by omega) hS)
  have hne : ((S : Int) == (s : Int)) = false := by simp; omega
  clear hS hkl hSs

  have HZ := Lib.hid (MZ.start w #[.int .u32 st, .slice sa n sc] #[.int .i64 kl, .int .u32 al, .slice AL nl cl, .int .u8 ml] #[.int .i64 3, .int .u32 a, .slice A nb c, .int .u8 s])
  obtain ⟨W0, hW0⟩ : ∃ W0, (((w.alloc (.cells #[.int .u32 st, .slice sa n sc] 25)).alloc (.cells #[.int .i64 kl, .int .u32 al, .slice AL nl cl, .int .u8 ml] 77)).alloc (.cells #[.int .i64 3, .int .u32 a, .slice A nb c, .int .u8 s] 77)) = W0 := ⟨_, rfl⟩
  rw [hW0] at HZ
  have HDB := Lib.hid (hd.below HZ.out.old)
  have HSG := Lib.hid (hs.below HZ.out.old)
  have HBS := Lib.hid hbs
  have HLN := Lib.hid hln
  clear hd hs hbs hln _hsl
  go_enter Tryd.func37, Tryd.ntmps37
  go_upto_region 1 with fail
  try rw [hW0]
  clear hW0
  have i1 := cell_of (o := 1) HZ.out.iz rfl
  have l0 := cell_of (o := 0) HZ.out.lz rfl
  have l1 := cell_of (o := 1) HZ.out.lz rfl
  have l2 := cell_of (o := 2) HZ.out.lz rfl
  have x0 := cell_of (o := 0) HZ.out.xz rfl
  have x1 := cell_of (o := 1) HZ.out.xz rfl
  have x2 := cell_of (o := 2) HZ.out.xz rfl
  have x3 := cell_of (o := 3) HZ.out.xz rfl
  go_upto_region 5 with fail
  have HS := Lib.hid (show W0.cell? ⟨w.heap.size + 2, 1, none⟩ = some (.int .u32 a) ∧ W0.cell? ⟨w.heap.size + 2, 2, none⟩ = some (.slice A nb c) ∧ W0.cell? ⟨w.heap.size + 2, 3, none⟩ = some (.int .u8 s) ∧ W0.heap.size ≤ W0.heap.size ∧ Hid (Below W0.heap.size W0 W0) from ⟨x1, x2, x3, Nat.le_refl _, Lib.hid (Below.refl _ _)⟩)
  clear i1 l0 l1 l2 x0 x1 x2 x3
  go_region_held3 (fun v => v.cell? ⟨w.heap.size + 2, 1, none⟩ = some (.int .u32 a) ∧ v.cell? ⟨w.heap.size + 2, 2, none⟩ = some (.slice A nb c) ∧ v.cell? ⟨w.heap.size + 2, 3, none⟩ = some (.int .u8 s) ∧ W0.heap.size ≤ v.heap.size ∧ Hid (Below W0.heap.size W0 v)) (first | exact f3_drew HS.out | exact f3_call (f3_drew HS.out) hb4)
    (first | (go_at_call 31; refine (HSO.out _ (HDB.out.below (f3_end (f3_drew HS.out)))).mono ?_; rintro e w4 ⟨rfl, hb4⟩))
  all_goals
    rename_i hHeld
    have HZ6 := Lib.hid (HZ.out.below (f3_end hHeld))
    have HSG6 := Lib.hid (HSG.out.below (f3_end hHeld))
    clear hHeld
    have i1 := cell_of (o := 1) HZ6.out.iz rfl
    have x0 := cell_of (o := 0) HZ6.out.xz rfl
    have x1 := cell_of (o := 1) HZ6.out.xz rfl
    have x2 := cell_of (o := 2) HZ6.out.xz rfl
    go_wp2
    go_ret
    exact ⟨S02.ret_int HE.out.symm, HZ6.out.old⟩
set_option maxHeartbeats 16000000 in
set_option maxRecDepth 100000 in
theorem more_3_yes {w : World} {sa : Option Addr} {n sc st kl al nl cl ml a nb c : Nat} {AL A : Option Addr} {l : List (Nat × List UInt8)} {bs : List UInt8} (hs : SgR w (.slice sa n sc) l) (hln : l.length = n) (_hn : n ≤ 1000) (hd : ByR w (.slice A nb c) bs) (hbs : bs.length = nb) (hb : nb ≤ 1000) (ha : a < 4294967296) (_hal : al < 4294967296) (_hnl : nl ≤ 1000) (_hsl : ∀ p ∈ l, p.1 + p.2.length ≤ 16384) (hkl : kl ≠ 3) (S : Nat) (hS : RM.sm a bs = S) :
    Calls Tryd.prog 37 #[.agg #[.int .u32 st, .slice sa n sc], .agg #[.int .i64 kl, .int .u32 al, .slice AL nl cl, .int .u8 ml], .agg #[.int .i64 3, .int .u32 a, .slice A nb c, .int .u8 S]] w fun e w' => e = .returned (.int .i64 (RM.moK kl al nl l 3 a bs S)) ∧ Below w.heap.size w w' := by
  have HE := Lib.hid (show RM.moK kl al nl l 3 a bs S = 0 by unfold RM.moK; rw [if_neg (by omega), if_neg (by omega)]; rw [if_neg (by omega), if_pos rfl])
  have hkl3 : ((kl : Int) == 3) = false := by simp; omega
  have HSO := Lib.hid (fun (W : World) (h : ByR W (.slice A nb c) bs) => sumOf_r h ha (by omega) hS)
  clear hS hkl

  have HZ := Lib.hid (MZ.start w #[.int .u32 st, .slice sa n sc] #[.int .i64 kl, .int .u32 al, .slice AL nl cl, .int .u8 ml] #[.int .i64 3, .int .u32 a, .slice A nb c, .int .u8 S])
  obtain ⟨W0, hW0⟩ : ∃ W0, (((w.alloc (.cells #[.int .u32 st, .slice sa n sc] 25)).alloc (.cells #[.int .i64 kl, .int .u32 al, .slice AL nl cl, .int .u8 ml] 77)).alloc (.cells #[.int .i64 3, .int .u32 a, .slice A nb c, .int .u8 S] 77)) = W0 := ⟨_, rfl⟩
  rw [hW0] at HZ
  have HDB := Lib.hid (hd.below HZ.out.old)
  have HSG := Lib.hid (hs.below HZ.out.old)
  have HBS := Lib.hid hbs
  have HLN := Lib.hid hln
  clear hd hs hbs hln _hsl
  go_enter Tryd.func37, Tryd.ntmps37
  go_upto_region 1 with fail
  try rw [hW0]
  clear hW0
  have i1 := cell_of (o := 1) HZ.out.iz rfl
  have l0 := cell_of (o := 0) HZ.out.lz rfl
  have l1 := cell_of (o := 1) HZ.out.lz rfl
  have l2 := cell_of (o := 2) HZ.out.lz rfl
  have x0 := cell_of (o := 0) HZ.out.xz rfl
  have x1 := cell_of (o := 1) HZ.out.xz rfl
  have x2 := cell_of (o := 2) HZ.out.xz rfl
  have x3 := cell_of (o := 3) HZ.out.xz rfl
  go_upto_region 5 with fail
  have HS := Lib.hid (show W0.cell? ⟨w.heap.size + 2, 1, none⟩ = some (.int .u32 a) ∧ W0.cell? ⟨w.heap.size + 2, 2, none⟩ = some (.slice A nb c) ∧ W0.cell? ⟨w.heap.size + 2, 3, none⟩ = some (.int .u8 S) ∧ W0.heap.size ≤ W0.heap.size ∧ Hid (Below W0.heap.size W0 W0) from ⟨x1, x2, x3, Nat.le_refl _, Lib.hid (Below.refl _ _)⟩)
  clear i1 l0 l1 l2 x0 x1 x2 x3
  go_region_held3 (fun v => v.cell? ⟨w.heap.size + 2, 1, none⟩ = some (.int .u32 a) ∧ v.cell? ⟨w.heap.size + 2, 2, none⟩ = some (.slice A nb c) ∧ v.cell? ⟨w.heap.size + 2, 3, none⟩ = some (.int .u8 S) ∧ W0.heap.size ≤ v.heap.size ∧ Hid (Below W0.heap.size W0 v)) (first | exact f3_drew HS.out | exact f3_call (f3_drew HS.out) hb4)
    (first | (go_at_call 31; refine (HSO.out _ (HDB.out.below (f3_end (f3_drew HS.out)))).mono ?_; rintro e w4 ⟨rfl, hb4⟩))
  all_goals
    rename_i hHeld
    have HZ6 := Lib.hid (HZ.out.below (f3_end hHeld))
    have HSG6 := Lib.hid (HSG.out.below (f3_end hHeld))
    clear hHeld
    have i1 := cell_of (o := 1) HZ6.out.iz rfl
    have x0 := cell_of (o := 0) HZ6.out.xz rfl
    have x1 := cell_of (o := 1) HZ6.out.xz rfl
    have x2 := cell_of (o := 2) HZ6.out.xz rfl
    go_wp2
    go_ret
    exact ⟨S02.ret_int HE.out.symm, HZ6.out.old⟩
set_option maxHeartbeats 16000000 in
set_option maxRecDepth 100000 in
theorem more_1_full {w : World} {sa : Option Addr} {sc st kl al nl cl ml a nb c : Nat} {AL A : Option Addr} {l : List (Nat × List UInt8)} {bs : List UInt8} (hs : SgR w (.slice sa 64 sc) l) (hln : l.length = 64) (_hn : 64 ≤ 1000) (hd : ByR w (.slice A nb c) bs) (hbs : bs.length = nb) (hb : nb ≤ 1000) (ha : a < 4294967296) (_hal : al < 4294967296) (_hnl : nl ≤ 1000) (_hsl : ∀ p ∈ l, p.1 + p.2.length ≤ 16384) (hkl : kl ≠ 3) (S : Nat) (hS : RM.sm a bs = S) :
    Calls Tryd.prog 37 #[.agg #[.int .u32 st, .slice sa 64 sc], .agg #[.int .i64 kl, .int .u32 al, .slice AL nl cl, .int .u8 ml], .agg #[.int .i64 1, .int .u32 a, .slice A nb c, .int .u8 S]] w fun e w' => e = .returned (.int .i64 (RM.moK kl al nl l 1 a bs S)) ∧ Below w.heap.size w w' := by
  have HE := Lib.hid (show RM.moK kl al nl l 1 a bs S = 4 by unfold RM.moK; rw [if_neg (by omega), if_neg (by omega)]; rw [if_neg (by omega), if_neg (by omega)]; rw [if_pos ⟨rfl, by omega⟩])
  have hkl3 : ((kl : Int) == 3) = false := by simp; omega
  have HSO := Lib.hid (fun (W : World) (h : ByR W (.slice A nb c) bs) => sumOf_r h ha (by omega) hS)
  clear hS hkl

  have HZ := Lib.hid (MZ.start w #[.int .u32 st, .slice sa 64 sc] #[.int .i64 kl, .int .u32 al, .slice AL nl cl, .int .u8 ml] #[.int .i64 1, .int .u32 a, .slice A nb c, .int .u8 S])
  obtain ⟨W0, hW0⟩ : ∃ W0, (((w.alloc (.cells #[.int .u32 st, .slice sa 64 sc] 25)).alloc (.cells #[.int .i64 kl, .int .u32 al, .slice AL nl cl, .int .u8 ml] 77)).alloc (.cells #[.int .i64 1, .int .u32 a, .slice A nb c, .int .u8 S] 77)) = W0 := ⟨_, rfl⟩
  rw [hW0] at HZ
  have HDB := Lib.hid (hd.below HZ.out.old)
  have HSG := Lib.hid (hs.below HZ.out.old)
  have HBS := Lib.hid hbs
  have HLN := Lib.hid hln
  clear hd hs hbs hln _hsl
  go_enter Tryd.func37, Tryd.ntmps37
  go_upto_region 1 with fail
  try rw [hW0]
  clear hW0
  have i1 := cell_of (o := 1) HZ.out.iz rfl
  have l0 := cell_of (o := 0) HZ.out.lz rfl
  have l1 := cell_of (o := 1) HZ.out.lz rfl
  have l2 := cell_of (o := 2) HZ.out.lz rfl
  have x0 := cell_of (o := 0) HZ.out.xz rfl
  have x1 := cell_of (o := 1) HZ.out.xz rfl
  have x2 := cell_of (o := 2) HZ.out.xz rfl
  have x3 := cell_of (o := 3) HZ.out.xz rfl
  go_upto_region 5 with fail
  have HS := Lib.hid (show W0.cell? ⟨w.heap.size + 2, 1, none⟩ = some (.int .u32 a) ∧ W0.cell? ⟨w.heap.size + 2, 2, none⟩ = some (.slice A nb c) ∧ W0.cell? ⟨w.heap.size + 2, 3, none⟩ = some (.int .u8 S) ∧ W0.heap.size ≤ W0.heap.size ∧ Hid (Below W0.heap.size W0 W0) from ⟨x1, x2, x3, Nat.le_refl _, Lib.hid (Below.refl _ _)⟩)
  clear i1 l0 l1 l2 x0 x1 x2 x3
  go_region_held3 (fun v => v.cell? ⟨w.heap.size + 2, 1, none⟩ = some (.int .u32 a) ∧ v.cell? ⟨w.heap.size + 2, 2, none⟩ = some (.slice A nb c) ∧ v.cell? ⟨w.heap.size + 2, 3, none⟩ = some (.int .u8 S) ∧ W0.heap.size ≤ v.heap.size ∧ Hid (Below W0.heap.size W0 v)) (first | exact f3_drew HS.out | exact f3_call (f3_drew HS.out) hb4)
    (first | (go_at_call 31; refine (HSO.out _ (HDB.out.below (f3_end (f3_drew HS.out)))).mono ?_; rintro e w4 ⟨rfl, hb4⟩))
  all_goals
    rename_i hHeld
    have HZ6 := Lib.hid (HZ.out.below (f3_end hHeld))
    have HSG6 := Lib.hid (HSG.out.below (f3_end hHeld))
    clear hHeld
    have i1 := cell_of (o := 1) HZ6.out.iz rfl
    have x0 := cell_of (o := 0) HZ6.out.xz rfl
    have x1 := cell_of (o := 1) HZ6.out.xz rfl
    have x2 := cell_of (o := 2) HZ6.out.xz rfl
    go_wp2
    go_ret
    exact ⟨S02.ret_int HE.out.symm, HZ6.out.old⟩
set_option maxHeartbeats 16000000 in
set_option maxRecDepth 100000 in
theorem more_1_far {w : World} {sa : Option Addr} {n sc st kl al nl cl ml a nb c : Nat} {AL A : Option Addr} {l : List (Nat × List UInt8)} {bs : List UInt8} (hs : SgR w (.slice sa n sc) l) (hln : l.length = n) (_hn : n ≤ 1000) (hd : ByR w (.slice A nb c) bs) (hbs : bs.length = nb) (hb : nb ≤ 1000) (ha : a < 4294967296) (_hal : al < 4294967296) (_hnl : nl ≤ 1000) (_hsl : ∀ p ∈ l, p.1 + p.2.length ≤ 16384) (hkl : kl ≠ 3) (S : Nat) (hS : RM.sm a bs = S) (h64 : n ≠ 64) (hfar : 16384 < a + nb) :
    Calls Tryd.prog 37 #[.agg #[.int .u32 st, .slice sa n sc], .agg #[.int .i64 kl, .int .u32 al, .slice AL nl cl, .int .u8 ml], .agg #[.int .i64 1, .int .u32 a, .slice A nb c, .int .u8 S]] w fun e w' => e = .returned (.int .i64 (RM.moK kl al nl l 1 a bs S)) ∧ Below w.heap.size w w' := by
  have HE := Lib.hid (show RM.moK kl al nl l 1 a bs S = 3 by unfold RM.moK; rw [if_neg (by omega), if_neg (by omega)]; rw [if_neg (by omega), if_neg (by omega)]; rw [if_neg (by omega), if_pos (by omega)])
  have hkl3 : ((kl : Int) == 3) = false := by simp; omega
  have HSO := Lib.hid (fun (W : World) (h : ByR W (.slice A nb c) bs) => sumOf_r h ha (by omega) hS)
  have h64' : ((n : Int) == 64) = false := by simp; omega
  have hfar' : (16384 : Int) < (a : Int) + nb := by omega
  clear h64 hfar
  clear hS hkl

  have HZ := Lib.hid (MZ.start w #[.int .u32 st, .slice sa n sc] #[.int .i64 kl, .int .u32 al, .slice AL nl cl, .int .u8 ml] #[.int .i64 1, .int .u32 a, .slice A nb c, .int .u8 S])
  obtain ⟨W0, hW0⟩ : ∃ W0, (((w.alloc (.cells #[.int .u32 st, .slice sa n sc] 25)).alloc (.cells #[.int .i64 kl, .int .u32 al, .slice AL nl cl, .int .u8 ml] 77)).alloc (.cells #[.int .i64 1, .int .u32 a, .slice A nb c, .int .u8 S] 77)) = W0 := ⟨_, rfl⟩
  rw [hW0] at HZ
  have HDB := Lib.hid (hd.below HZ.out.old)
  have HSG := Lib.hid (hs.below HZ.out.old)
  have HBS := Lib.hid hbs
  have HLN := Lib.hid hln
  clear hd hs hbs hln _hsl
  go_enter Tryd.func37, Tryd.ntmps37
  go_upto_region 1 with fail
  try rw [hW0]
  clear hW0
  have i1 := cell_of (o := 1) HZ.out.iz rfl
  have l0 := cell_of (o := 0) HZ.out.lz rfl
  have l1 := cell_of (o := 1) HZ.out.lz rfl
  have l2 := cell_of (o := 2) HZ.out.lz rfl
  have x0 := cell_of (o := 0) HZ.out.xz rfl
  have x1 := cell_of (o := 1) HZ.out.xz rfl
  have x2 := cell_of (o := 2) HZ.out.xz rfl
  have x3 := cell_of (o := 3) HZ.out.xz rfl
  go_upto_region 5 with fail
  have HS := Lib.hid (show W0.cell? ⟨w.heap.size + 2, 1, none⟩ = some (.int .u32 a) ∧ W0.cell? ⟨w.heap.size + 2, 2, none⟩ = some (.slice A nb c) ∧ W0.cell? ⟨w.heap.size + 2, 3, none⟩ = some (.int .u8 S) ∧ W0.heap.size ≤ W0.heap.size ∧ Hid (Below W0.heap.size W0 W0) from ⟨x1, x2, x3, Nat.le_refl _, Lib.hid (Below.refl _ _)⟩)
  clear i1 l0 l1 l2 x0 x1 x2 x3
  go_region_held3 (fun v => v.cell? ⟨w.heap.size + 2, 1, none⟩ = some (.int .u32 a) ∧ v.cell? ⟨w.heap.size + 2, 2, none⟩ = some (.slice A nb c) ∧ v.cell? ⟨w.heap.size + 2, 3, none⟩ = some (.int .u8 S) ∧ W0.heap.size ≤ v.heap.size ∧ Hid (Below W0.heap.size W0 v)) (first | exact f3_drew HS.out | exact f3_call (f3_drew HS.out) hb4)
    (first | (go_at_call 31; refine (HSO.out _ (HDB.out.below (f3_end (f3_drew HS.out)))).mono ?_; rintro e w4 ⟨rfl, hb4⟩))
  all_goals
    rename_i hHeld
    have HZ6 := Lib.hid (HZ.out.below (f3_end hHeld))
    have HSG6 := Lib.hid (HSG.out.below (f3_end hHeld))
    clear hHeld
    have i1 := cell_of (o := 1) HZ6.out.iz rfl
    have x0 := cell_of (o := 0) HZ6.out.xz rfl
    have x1 := cell_of (o := 1) HZ6.out.xz rfl
    have x2 := cell_of (o := 2) HZ6.out.xz rfl
    go_wp2
    go_ret
    exact ⟨S02.ret_int HE.out.symm, HZ6.out.old⟩
end Go.Proofs.YtcilhippjiichaaDoor
