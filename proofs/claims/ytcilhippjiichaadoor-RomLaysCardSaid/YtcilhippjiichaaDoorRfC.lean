/-
  What the reference's more answers: why a line is wrong behind an image. No condition but lengths.
-/
import Derived.Test.YtcilhippjiichaaDoorRfB
namespace Go.Proofs.YtcilhippjiichaaDoor
open Go.RowKit Go.Maps S02
namespace RM
/-- Why a line is wrong, kinds and numbers beside each other: a code. -/
def moK (kl al nl : Nat) (l : List (Nat × List UInt8)) (k a : Nat) (bs : List UInt8) (s : Nat) : Int := if k = 0 ∨ kl = 3 then 2 else if k = 2 ∧ (kl = 0 ∨ nl ≠ 16 ∨ a ≠ (al + 16) % 4294967296) then 2 else if sm a bs ≠ s then 11 else if k = 3 then 0 else if k = 1 ∧ l.length = 64 then 4 else if 16384 < a + bs.length then 3 else if k = 1 ∧ l ≠ [] ∧ a < en 0 l then 7 else 0
theorem moK_none (kl al nl : Nat) (l : List (Nat × List UInt8)) (a : Nat) (bs : List UInt8) (s : Nat) : moK kl al nl l 0 a bs s = moE kl al nl l none := by
  unfold moK moE
  rw [if_pos (.inl rfl)]
theorem moK_some (kl al nl : Nat) (l : List (Nat × List UInt8)) (x : Ln) (hk : x.k ≠ 0) : moK kl al nl l x.k x.a x.bs x.s = moE kl al nl l (some x) := by
  unfold moK moE
  simp only []
  by_cases h : kl = 3
  · rw [if_pos (.inr h), if_pos h]
  · rw [if_neg (fun e => e.elim hk h), if_neg h]
end RM
/-- The three blocks of more. -/
structure MZ (w W : World) (i l x : Array Value) : Prop where
  iz : W.heap[w.heap.size]? = some (.cells i 25 (0, 0))
  lz : W.heap[w.heap.size + 1]? = some (.cells l 77 (0, 0))
  xz : W.heap[w.heap.size + 2]? = some (.cells x 77 (0, 0))
  old : Below w.heap.size w W
theorem MZ.start (w : World) (i l x : Array Value) : MZ w (((w.alloc (.cells i 25)).alloc (.cells l 77)).alloc (.cells x 77)) i l x := by
  have e1 : (w.alloc (.cells i 25)).heap.size = w.heap.size + 1 := by simp
  have e2 : ((w.alloc (.cells i 25)).alloc (.cells l 77)).heap.size = w.heap.size + 2 := by simp
  refine ⟨?_, ?_, ?_, below_three w _ _ _⟩
  · rw [Below.heap_alloc _ _ _ (by rw [e2]; omega), Below.heap_alloc _ _ _ (by rw [e1]; omega)]; exact heap_alloc_new w _
  · rw [Below.heap_alloc _ _ _ (by rw [e2]; omega)]
    have := heap_alloc_new (w.alloc (.cells i 25)) (.cells l 77)
    rwa [e1] at this
  · have := heap_alloc_new ((w.alloc (.cells i 25)).alloc (.cells l 77)) (.cells x 77)
    rwa [e2] at this
theorem MZ.below {w W W' : World} {i l x : Array Value} (h : MZ w W i l x) (hb : Below W.heap.size W W') : MZ w W' i l x :=
  ⟨(hb.block _ (lt_of_heap h.iz)).trans h.iz, (hb.block _ (lt_of_heap h.lz)).trans h.lz, (hb.block _ (lt_of_heap h.xz)).trans h.xz, h.old.trans (hb.mono h.old.size)⟩
theorem g4_call {w v v' : World} {p q r : Addr} {x y z : Value} (h : v.cell? p = some x ∧ v.cell? q = some y ∧ v.cell? r = some z ∧ w.heap.size ≤ v.heap.size ∧ Hid (Below w.heap.size w v)) (hb : Below v.heap.size v v') : v'.cell? p = some x ∧ v'.cell? q = some y ∧ v'.cell? r = some z ∧ w.heap.size ≤ v'.heap.size ∧ Hid (Below w.heap.size w v') := f3_call h hb
set_option maxHeartbeats 16000000 in
set_option maxRecDepth 100000 in
theorem more_none0 {w : World} {sa : Option Addr} {n sc st kl al nl cl ml a nb c : Nat} {AL A : Option Addr} {l : List (Nat × List UInt8)} {bs : List UInt8} (hs : SgR w (.slice sa n sc) l) (hln : l.length = n) (_hn : n ≤ 1000) (hd : ByR w (.slice A nb c) bs) (hbs : bs.length = nb) (_hb : nb ≤ 1000) (_ha : a < 4294967296) (_hal : al < 4294967296) (_hnl : nl ≤ 1000) (_hsl : ∀ p ∈ l, p.1 + p.2.length ≤ 16384) (s : Nat) :
    Calls Tryd.prog 37 #[.agg #[.int .u32 st, .slice sa n sc], .agg #[.int .i64 kl, .int .u32 al, .slice AL nl cl, .int .u8 ml], .agg #[.int .i64 0, .int .u32 a, .slice A nb c, .int .u8 s]] w fun e w' => e = .returned (.int .i64 (RM.moK kl al nl l 0 a bs s)) ∧ Below w.heap.size w w' := by
  have HE := Lib.hid (show RM.moK kl al nl l 0 a bs s = 2 by unfold RM.moK; rw [if_pos (.inl rfl)])
  skip
  have HZ := Lib.hid (MZ.start w #[.int .u32 st, .slice sa n sc] #[.int .i64 kl, .int .u32 al, .slice AL nl cl, .int .u8 ml] #[.int .i64 0, .int .u32 a, .slice A nb c, .int .u8 s])
  obtain ⟨W0, hW0⟩ : ∃ W0, (((w.alloc (.cells #[.int .u32 st, .slice sa n sc] 25)).alloc (.cells #[.int .i64 kl, .int .u32 al, .slice AL nl cl, .int .u8 ml] 77)).alloc (.cells #[.int .i64 0, .int .u32 a, .slice A nb c, .int .u8 s] 77)) = W0 := ⟨_, rfl⟩
  rw [hW0] at HZ
  have HDB := Lib.hid (hd.below HZ.out.old)
  have HSG := Lib.hid (hs.below HZ.out.old)
  have HBS := Lib.hid hbs
  have HLN := Lib.hid hln
  clear hd hs hbs hln _hsl
  go_enter Tryd.func37, Tryd.ntmps37
  go_upto_region 1 with fail
  try rw [hW0]
  clear hW0
  have i1 := cell_of (o := 1) HZ.out.iz rfl
  have l0 := cell_of (o := 0) HZ.out.lz rfl
  have l1 := cell_of (o := 1) HZ.out.lz rfl
  have l2 := cell_of (o := 2) HZ.out.lz rfl
  have x0 := cell_of (o := 0) HZ.out.xz rfl
  have x1 := cell_of (o := 1) HZ.out.xz rfl
  have x2 := cell_of (o := 2) HZ.out.xz rfl
  have x3 := cell_of (o := 3) HZ.out.xz rfl
  go_wp2
  go_ret
  exact ⟨S02.ret_int HE.out.symm, HZ.out.old⟩
set_option maxHeartbeats 16000000 in
set_option maxRecDepth 100000 in
theorem more_late {w : World} {sa : Option Addr} {n sc st al nl cl ml a nb c : Nat} {AL A : Option Addr} {l : List (Nat × List UInt8)} {bs : List UInt8} (hs : SgR w (.slice sa n sc) l) (hln : l.length = n) (_hn : n ≤ 1000) (hd : ByR w (.slice A nb c) bs) (hbs : bs.length = nb) (_hb : nb ≤ 1000) (_ha : a < 4294967296) (_hal : al < 4294967296) (_hnl : nl ≤ 1000) (_hsl : ∀ p ∈ l, p.1 + p.2.length ≤ 16384) (k s : Nat) (hk : k ≠ 0) :
    Calls Tryd.prog 37 #[.agg #[.int .u32 st, .slice sa n sc], .agg #[.int .i64 3, .int .u32 al, .slice AL nl cl, .int .u8 ml], .agg #[.int .i64 k, .int .u32 a, .slice A nb c, .int .u8 s]] w fun e w' => e = .returned (.int .i64 (RM.moK 3 al nl l k a bs s)) ∧ Below w.heap.size w w' := by
  have HE := Lib.hid (show RM.moK 3 al nl l k a bs s = 2 by unfold RM.moK; rw [if_pos (.inr rfl)])
  have hk0 : ((k : Int) == 0) = false := by simp; omega
  clear hk
  have HZ := Lib.hid (MZ.start w #[.int .u32 st, .slice sa n sc] #[.int .i64 3, .int .u32 al, .slice AL nl cl, .int .u8 ml] #[.int .i64 k, .int .u32 a, .slice A nb c, .int .u8 s])
  obtain ⟨W0, hW0⟩ : ∃ W0, (((w.alloc (.cells #[.int .u32 st, .slice sa n sc] 25)).alloc (.cells #[.int .i64 3, .int .u32 al, .slice AL nl cl, .int .u8 ml] 77)).alloc (.cells #[.int .i64 k, .int .u32 a, .slice A nb c, .int .u8 s] 77)) = W0 := ⟨_, rfl⟩
  rw [hW0] at HZ
  have HDB := Lib.hid (hd.below HZ.out.old)
  have HSG := Lib.hid (hs.below HZ.out.old)
  have HBS := Lib.hid hbs
  have HLN := Lib.hid hln
  clear hd hs hbs hln _hsl
  go_enter Tryd.func37, Tryd.ntmps37
  go_upto_region 1 with fail
  try rw [hW0]
  clear hW0
  have i1 := cell_of (o := 1) HZ.out.iz rfl
  have l0 := cell_of (o := 0) HZ.out.lz rfl
  have l1 := cell_of (o := 1) HZ.out.lz rfl
  have l2 := cell_of (o := 2) HZ.out.lz rfl
  have x0 := cell_of (o := 0) HZ.out.xz rfl
  have x1 := cell_of (o := 1) HZ.out.xz rfl
  have x2 := cell_of (o := 2) HZ.out.xz rfl
  have x3 := cell_of (o := 3) HZ.out.xz rfl
  go_wp2
  go_ret
  exact ⟨S02.ret_int HE.out.symm, HZ.out.old⟩
set_option maxHeartbeats 16000000 in
set_option maxRecDepth 100000 in
theorem more_first {w : World} {sa : Option Addr} {n sc st al nl cl ml a nb c : Nat} {AL A : Option Addr} {l : List (Nat × List UInt8)} {bs : List UInt8} (hs : SgR w (.slice sa n sc) l) (hln : l.length = n) (_hn : n ≤ 1000) (hd : ByR w (.slice A nb c) bs) (hbs : bs.length = nb) (_hb : nb ≤ 1000) (_ha : a < 4294967296) (_hal : al < 4294967296) (_hnl : nl ≤ 1000) (_hsl : ∀ p ∈ l, p.1 + p.2.length ≤ 16384) (s : Nat) :
    Calls Tryd.prog 37 #[.agg #[.int .u32 st, .slice sa n sc], .agg #[.int .i64 0, .int .u32 al, .slice AL nl cl, .int .u8 ml], .agg #[.int .i64 2, .int .u32 a, .slice A nb c, .int .u8 s]] w fun e w' => e = .returned (.int .i64 (RM.moK 0 al nl l 2 a bs s)) ∧ Below w.heap.size w w' := by
  have HE := Lib.hid (show RM.moK 0 al nl l 2 a bs s = 2 by unfold RM.moK; rw [if_neg (by omega), if_pos ⟨rfl, .inl rfl⟩])
  skip
  have HZ := Lib.hid (MZ.start w #[.int .u32 st, .slice sa n sc] #[.int .i64 0, .int .u32 al, .slice AL nl cl, .int .u8 ml] #[.int .i64 2, .int .u32 a, .slice A nb c, .int .u8 s])
  obtain ⟨W0, hW0⟩ : ∃ W0, (((w.alloc (.cells #[.int .u32 st, .slice sa n sc] 25)).alloc (.cells #[.int .i64 0, .int .u32 al, .slice AL nl cl, .int .u8 ml] 77)).alloc (.cells #[.int .i64 2, .int .u32 a, .slice A nb c, .int .u8 s] 77)) = W0 := ⟨_, rfl⟩
  rw [hW0] at HZ
  have HDB := Lib.hid (hd.below HZ.out.old)
  have HSG := Lib.hid (hs.below HZ.out.old)
  have HBS := Lib.hid hbs
  have HLN := Lib.hid hln
  clear hd hs hbs hln _hsl
  go_enter Tryd.func37, Tryd.ntmps37
  go_upto_region 1 with fail
  try rw [hW0]
  clear hW0
  have i1 := cell_of (o := 1) HZ.out.iz rfl
  have l0 := cell_of (o := 0) HZ.out.lz rfl
  have l1 := cell_of (o := 1) HZ.out.lz rfl
  have l2 := cell_of (o := 2) HZ.out.lz rfl
  have x0 := cell_of (o := 0) HZ.out.xz rfl
  have x1 := cell_of (o := 1) HZ.out.xz rfl
  have x2 := cell_of (o := 2) HZ.out.xz rfl
  have x3 := cell_of (o := 3) HZ.out.xz rfl
  go_wp2
  go_ret
  exact ⟨S02.ret_int HE.out.symm, HZ.out.old⟩
set_option maxHeartbeats 16000000 in
set_option maxRecDepth 100000 in
theorem more_short {w : World} {sa : Option Addr} {n sc st kl al nl cl ml a nb c : Nat} {AL A : Option Addr} {l : List (Nat × List UInt8)} {bs : List UInt8} (hs : SgR w (.slice sa n sc) l) (hln : l.length = n) (_hn : n ≤ 1000) (hd : ByR w (.slice A nb c) bs) (hbs : bs.length = nb) (_hb : nb ≤ 1000) (_ha : a < 4294967296) (_hal : al < 4294967296) (_hnl : nl ≤ 1000) (_hsl : ∀ p ∈ l, p.1 + p.2.length ≤ 16384) (s : Nat) (hkl : kl ≠ 3) (hk0 : kl ≠ 0) (h16 : nl ≠ 16) :
    Calls Tryd.prog 37 #[.agg #[.int .u32 st, .slice sa n sc], .agg #[.int .i64 kl, .int .u32 al, .slice AL nl cl, .int .u8 ml], .agg #[.int .i64 2, .int .u32 a, .slice A nb c, .int .u8 s]] w fun e w' => e = .returned (.int .i64 (RM.moK kl al nl l 2 a bs s)) ∧ Below w.heap.size w w' := by
  have HE := Lib.hid (show RM.moK kl al nl l 2 a bs s = 2 by unfold RM.moK; rw [if_neg (by omega), if_pos ⟨rfl, .inr (.inl h16)⟩])
  have hkl3 : ((kl : Int) == 3) = false := by simp; omega
  have hkl0 : ((kl : Int) == 0) = false := by simp; omega
  have h16' : ((nl : Int) == 16) = false := by simp; omega
  clear hkl hk0 h16
  have HZ := Lib.hid (MZ.start w #[.int .u32 st, .slice sa n sc] #[.int .i64 kl, .int .u32 al, .slice AL nl cl, .int .u8 ml] #[.int .i64 2, .int .u32 a, .slice A nb c, .int .u8 s])
  obtain ⟨W0, hW0⟩ : ∃ W0, (((w.alloc (.cells #[.int .u32 st, .slice sa n sc] 25)).alloc (.cells #[.int .i64 kl, .int .u32 al, .slice AL nl cl, .int .u8 ml] 77)).alloc (.cells #[.int .i64 2, .int .u32 a, .slice A nb c, .int .u8 s] 77)) = W0 := ⟨_, rfl⟩
  rw [hW0] at HZ
  have HDB := Lib.hid (hd.below HZ.out.old)
  have HSG := Lib.hid (hs.below HZ.out.old)
  have HBS := Lib.hid hbs
  have HLN := Lib.hid hln
  clear hd hs hbs hln _hsl
  go_enter Tryd.func37, Tryd.ntmps37
  go_upto_region 1 with fail
  try rw [hW0]
  clear hW0
  have i1 := cell_of (o := 1) HZ.out.iz rfl
  have l0 := cell_of (o := 0) HZ.out.lz rfl
  have l1 := cell_of (o := 1) HZ.out.lz rfl
  have l2 := cell_of (o := 2) HZ.out.lz rfl
  have x0 := cell_of (o := 0) HZ.out.xz rfl
  have x1 := cell_of (o := 1) HZ.out.xz rfl
  have x2 := cell_of (o := 2) HZ.out.xz rfl
  have x3 := cell_of (o := 3) HZ.out.xz rfl
  go_wp2
  go_ret
  exact ⟨S02.ret_int HE.out.symm, HZ.out.old⟩
set_option maxHeartbeats 16000000 in
set_option maxRecDepth 100000 in
theorem more_apart {w : World} {sa : Option Addr} {n sc st kl al cl ml a nb c : Nat} {AL A : Option Addr} {l : List (Nat × List UInt8)} {bs : List UInt8} (hs : SgR w (.slice sa n sc) l) (hln : l.length = n) (_hn : n ≤ 1000) (hd : ByR w (.slice A nb c) bs) (hbs : bs.length = nb) (_hb : nb ≤ 1000) (ha : a < 4294967296) (_hal : al < 4294967296) (_hnl : 16 ≤ 1000) (_hsl : ∀ p ∈ l, p.1 + p.2.length ≤ 16384) (s : Nat) (hkl : kl ≠ 3) (hk0 : kl ≠ 0) (hap : a ≠ (al + 16) % 4294967296) :
    Calls Tryd.prog 37 #[.agg #[.int .u32 st, .slice sa n sc], .agg #[.int .i64 kl, .int .u32 al, .slice AL 16 cl, .int .u8 ml], .agg #[.int .i64 2, .int .u32 a, .slice A nb c, .int .u8 s]] w fun e w' => e = .returned (.int .i64 (RM.moK kl al 16 l 2 a bs s)) ∧ Below w.heap.size w w' := by
  have HE := Lib.hid (show RM.moK kl al 16 l 2 a bs s = 2 by unfold RM.moK; rw [if_neg (by omega), if_pos ⟨rfl, .inr (.inr hap)⟩])
  have hkl3 : ((kl : Int) == 3) = false := by simp; omega
  have hkl0 : ((kl : Int) == 0) = false := by simp; omega
  have hap' : ((a : Int) == ((al : Int) + 16) % 4294967296) = false := by simp; omega
  clear hkl hk0 hap
  have HZ := Lib.hid (MZ.start w #[.int .u32 st, .slice sa n sc] #[.int .i64 kl, .int .u32 al, .slice AL 16 cl, .int .u8 ml] #[.int .i64 2, .int .u32 a, .slice A nb c, .int .u8 s])
  obtain ⟨W0, hW0⟩ : ∃ W0, (((w.alloc (.cells #[.int .u32 st, .slice sa n sc] 25)).alloc (.cells #[.int .i64 kl, .int .u32 al, .slice AL 16 cl, .int .u8 ml] 77)).alloc (.cells #[.int .i64 2, .int .u32 a, .slice A nb c, .int .u8 s] 77)) = W0 := ⟨_, rfl⟩
  rw [hW0] at HZ
  have HDB := Lib.hid (hd.below HZ.out.old)
  have HSG := Lib.hid (hs.below HZ.out.old)
  have HBS := Lib.hid hbs
  have HLN := Lib.hid hln
  clear hd hs hbs hln _hsl
  go_enter Tryd.func37, Tryd.ntmps37
  go_upto_region 1 with fail
  try rw [hW0]
  clear hW0
  have i1 := cell_of (o := 1) HZ.out.iz rfl
  have l0 := cell_of (o := 0) HZ.out.lz rfl
  have l1 := cell_of (o := 1) HZ.out.lz rfl
  have l2 := cell_of (o := 2) HZ.out.lz rfl
  have x0 := cell_of (o := 0) HZ.out.xz rfl
  have x1 := cell_of (o := 1) HZ.out.xz rfl
  have x2 := cell_of (o := 2) HZ.out.xz rfl
  have x3 := cell_of (o := 3) HZ.out.xz rfl
  go_wp2
  go_ret
  exact ⟨S02.ret_int HE.out.symm, HZ.out.old⟩
end Go.Proofs.YtcilhippjiichaaDoor
