/-
  The sum of an address and of bytes, the package's and the reference's. No condition but lengths.
  What written answers: the line of a word, an address and bytes. No condition but lengths, and that the library's table is as its text lays it.
  What written answers where there are bytes, and the reference's line. No condition but lengths, and that the library's table is as its text lays it.
-/
import Derived.Test.YtcilhippjiichaaDoorGf

/-! WalkE -/
namespace Go.Proofs.YtcilhippjiichaaDoor
open Go.RowKit Go.Maps S02
/-- The bytes of an address, the lowest first. -/
def b4 (a : Nat) : List UInt8 := [UInt8.ofNat (a % 256), UInt8.ofNat (a / 256 % 256), UInt8.ofNat (a / 65536 % 256), UInt8.ofNat (a / 16777216)]
theorem u8n (n : Nat) (h : n < 256) : (UInt8.ofNat n).toNat = n := by rw [UInt8.toNat_ofNat']; exact Nat.mod_eq_of_lt h
theorem b4_tot (a : Nat) (h : a < 4294967296) : RM.tot (b4 a) = RM.ab a := by
  simp only [b4, RM.tot, RM.ab]
  rw [u8n _ (by omega), u8n _ (by omega), u8n _ (by omega), u8n _ (by omega)]
  omega
theorem b4_cells (a : Nat) (h : a < 4294967296) : byC (b4 a) = [.int .u8 ((a : Int) % 256), .int .u8 ((a : Int) / 256 % 256), .int .u8 ((a : Int) / 65536 % 256), .int .u8 ((a : Int) / 16777216)] := by
  simp only [b4, byC, List.map_cons, List.map_nil]
  rw [u8n _ (by omega), u8n _ (by omega), u8n _ (by omega), u8n _ (by omega)]
  rfl
theorem b4_row (W : World) (N : Nat) (a : Nat) (h : a < 4294967296) (hN : N ≤ W.heap.size) : (W.alloc (.cells #[.int .u8 ((a : Int) % 256), .int .u8 ((a : Int) / 256 % 256), .int .u8 ((a : Int) / 65536 % 256), .int .u8 ((a : Int) / 16777216)] 5)).ownsRow N 5 1 (.slice (some ⟨W.heap.size, 0, none⟩) 4 4) 4 (byC (b4 a)) := by
  rw [b4_cells a h]
  exact World.ownsRow_lit W _ 4 hN (by unfold maxLen; omega) rfl
theorem sm_b4 (a : Nat) (h : a < 4294967296) (bs : List UInt8) : RM.ng (RM.tot (b4 a ++ bs)) = RM.sm a bs := by rw [RM.tot_app, b4_tot a h]; rfl
set_option maxRecDepth 100000 in
set_option maxHeartbeats 800000 in
theorem sumOf_any {w : World} {a : Nat} {v : Value} {bs : List UInt8} (h : ByR w v bs) (ha : a < 4294967296) (hl : bs.length ≤ 100000) :
    Calls Tryd.prog 41 #[.agg #[.int .u32 a, v]] w fun e w' => e = .returned (.int .u8 (RM.sm a bs)) ∧ Below w.heap.size w w' := by
  obtain ⟨A, c, rfl⟩ := by_form h
  have ha0 : (0 : Int) ≤ a := by omega
  obtain ⟨W0, hW0⟩ : ∃ W0, w.alloc (.cells #[.int .u32 a, .slice A bs.length c] 51) = W0 := ⟨_, rfl⟩
  have HB0 := Lib.hid (show Below w.heap.size w W0 from hW0 ▸ below_one w _)
  have HI0 := Lib.hid (show W0.heap[w.heap.size]? = some (.cells #[.int .u32 a, .slice A bs.length c] 51 (0, 0)) from hW0 ▸ heap_alloc_new w _)
  have HOW := Lib.hid (b4_row W0 w.heap.size a ha HB0.out.size)
  have HB1 := Lib.hid (fun o => HB0.out.alloc HB0.out.size o)
  have HX := Lib.hid (fun o => h.below (HB1.out o))
  have HSM := Lib.hid (sm_b4 a ha bs)
  have HLL := Lib.hid (show (b4 a ++ bs).length = 4 + bs.length by rw [List.length_append]; rfl)
  have hlen : 4 + bs.length ≤ 100000000 := by omega
  have HL2 := Lib.hid (show (b4 a ++ bs).length ≤ 1000000 by rw [HLL.out]; omega)
  clear h hl
  go_enter Tryd.func41, Tryd.ntmps41
  go_upto_region 1 with fail
  have c0 := cell_of (o := 0) HI0.out rfl
  have c1 := cell_of (o := 1) HI0.out rfl
  have d0 := fun o => (cell_below (below_one W0 o) c0)
  have d1 := fun o => (cell_below (below_one W0 o) c1)
  clear hW0
  go_wp2_with (first
    | (at_builtin; refine wpList_append_by (v := .slice (some ⟨W0.heap.size, 0, none⟩) 4 4) (x := .slice A bs.length c) rfl (.tmp 20) (.tmp 22) rfl rfl rfl HOW.out (HX.out _) hlen (HB1.out _).size ?_; intro v' w2 ho2 hg2 hv2; have HR := Lib.hid (show ByR w2 v' (b4 a ++ bs) from ByR.of_own (N := w.heap.size) (by rw [HLL.out, byC_app]; exact ho2)); have HB2 := Lib.hid ((HB1.out _).grown hg2 (HB1.out _).size (fun k hk => (own_lt HOW.out hk).1)); clear ho2 hg2 hv2)
    | (go_at_call 18; refine (sum_any HR.out HL2.out).mono ?_; rw [HSM.out]; rintro e w3 ⟨rfl, rfl⟩))
  go_ret
  exact ⟨rfl, HB2.out⟩
theorem b4_back (a : Nat) (h : a < 4294967296) : byC (b4 a).reverse = [.int .u8 ((a : Int) / 16777216), .int .u8 ((a : Int) / 65536 % 256), .int .u8 ((a : Int) / 256 % 256), .int .u8 ((a : Int) % 256)] := by
  simp only [b4, byC, List.reverse_cons, List.reverse_nil, List.nil_append, List.cons_append, List.map_cons, List.map_nil]
  rw [u8n _ (by omega), u8n _ (by omega), u8n _ (by omega), u8n _ (by omega)]
  rfl
theorem b4_row' (W : World) (N : Nat) (a : Nat) (h : a < 4294967296) (hN : N ≤ W.heap.size) : (W.alloc (.cells #[.int .u8 ((a : Int) / 16777216), .int .u8 ((a : Int) / 65536 % 256), .int .u8 ((a : Int) / 256 % 256), .int .u8 ((a : Int) % 256)] 5)).ownsRow N 5 1 (.slice (some ⟨W.heap.size, 0, none⟩) 4 4) 4 (byC (b4 a).reverse) := by
  rw [b4_back a h]
  exact World.ownsRow_lit W _ 4 hN (by unfold maxLen; omega) rfl
theorem sm_b4' (a : Nat) (h : a < 4294967296) (bs : List UInt8) : RM.ng (RM.tot ((b4 a).reverse ++ bs)) = RM.sm a bs := by
  rw [RM.tot_app, show RM.tot (b4 a).reverse = RM.tot (b4 a) by simp only [b4, RM.tot, List.reverse_cons, List.reverse_nil, List.nil_append, List.cons_append]; omega, b4_tot a h]; rfl
set_option maxRecDepth 100000 in
set_option maxHeartbeats 800000 in
theorem rsumOf_any {w : World} {a : Nat} {v : Value} {bs : List UInt8} (h : ByR w v bs) (ha : a < 4294967296) (hl : bs.length ≤ 100000) :
    Calls Tryd.prog 31 #[.int .u32 a, v] w fun e w' => e = .returned (.int .u8 (RM.sm a bs)) ∧ Below w.heap.size w w' := by
  obtain ⟨A, c, rfl⟩ := by_form h
  have ha0 : (0 : Int) ≤ a := by omega
  have HB0 := Lib.hid (Below.refl w.heap.size w)
  have HOW := Lib.hid (b4_row' w w.heap.size a ha HB0.out.size)
  have HB1 := Lib.hid (fun o => HB0.out.alloc HB0.out.size o)
  have HX := Lib.hid (fun o => h.below (HB1.out o))
  have HSM := Lib.hid (sm_b4' a ha bs)
  have HLL := Lib.hid (show ((b4 a).reverse ++ bs).length = 4 + bs.length by rw [List.length_append]; rfl)
  have hlen : 4 + bs.length ≤ 100000000 := by omega
  have HL2 := Lib.hid (show ((b4 a).reverse ++ bs).length ≤ 1000000 by rw [HLL.out]; omega)
  clear h hl
  go_enter Tryd.func31, Tryd.ntmps31
  go_wp2_with (first
    | (at_builtin; refine wpList_append_by (v := .slice (some ⟨w.heap.size, 0, none⟩) 4 4) (x := .slice A bs.length c) rfl (.tmp 21) (.tmp 22) rfl rfl rfl HOW.out (HX.out _) hlen (HB1.out _).size ?_; intro v' w2 ho2 hg2 hv2; have HR := Lib.hid (show ByR w2 v' ((b4 a).reverse ++ bs) from ByR.of_own (N := w.heap.size) (by rw [HLL.out, byC_app]; exact ho2)); have HB2 := Lib.hid ((HB1.out _).grown hg2 (HB1.out _).size (fun k hk => (own_lt HOW.out hk).1)); clear ho2 hg2 hv2)
    | (go_at_call 19; refine (rsum_any HR.out HL2.out).mono ?_; rw [HSM.out]; rintro e w3 ⟨rfl, rfl⟩))
  go_ret
  exact ⟨rfl, HB2.out⟩
theorem two_any (b : Nat) (w : World) (hb : b < 256) : Calls Tryd.prog 30 #[.int .u8 b] w fun e w' => e = .returned (.string ⟨(NM.hxs b 2).toArray⟩) ∧ Below w.heap.size w w' := by
  obtain ⟨X, hX, hX1, hX2⟩ := bt_of (NM.hxs b 8)
  have H1 := Lib.hid (rhexs_any b w (by omega))
  rw [hX] at H1
  rw [NM.hxs_len] at hX2
  have HX6 := Lib.hid (show (X.extract 6 X.size).data.toList = NM.hxs b 2 by rw [Lib.extract_data, hX1, hxs_two, List.take_of_length_le (by rw [NM.hxs_len]; omega)])
  have hXa : 6 ≤ X.size := by omega
  have hXb : X.size ≤ 8 := by omega
  have hb' : (b : Int) < 256 := by omega
  clear hX hX1 hX2
  go_enter Tryd.func30, Tryd.ntmps30
  go_wp2_with (go_at_call 29; refine H1.out.mono ?_; rintro e w2 ⟨rfl, hb2⟩)
  go_ret
  exact ⟨S02.ret_str (by rw [HX6.out]), hb2⟩
end Go.Proofs.YtcilhippjiichaaDoor
/-! WalkF -/
namespace Go.Proofs.YtcilhippjiichaaDoor
open Go.RowKit Go.Maps S02
theorem join_own {w : World} {B : Nat} {v : Value} {l : List (List UInt8)} (h : w.ownsRow B 9 1 v l.length (l.map NM.tv)) (h0 : l ≠ []) (hl : l.length ≤ 1000) (hj : (Lib.join l [32]).length ≤ 1000000) :
    Calls Tryd.prog 42 #[v, .string ⟨#[32]⟩] w fun e w' => e = .returned (.string ⟨(Lib.join l [32]).toArray⟩) ∧ Below w.heap.size w w' := by
  have e : (l.map fun x => (⟨x.toArray⟩ : ByteArray)).map (·.data.toList) = l := by
    rw [List.map_map]
    conv => rhs; rw [← List.map_id l]
    apply List.map_congr_left
    intro x _
    rfl
  have hlen : (l.map fun x => (⟨x.toArray⟩ : ByteArray)).length = l.length := List.length_map ..
  rcases h.2 with ⟨_, h1⟩ | ⟨g, cap, cur, rfl, h1, h2, h3, _⟩
  · exact absurd (List.eq_nil_of_length_eq_zero h1) h0
  · have := Tryd.strings_Join g 0 cap (l.map fun x => (⟨x.toArray⟩ : ByteArray)) ⟨#[32]⟩ w (fun j x hx => ?_) (lt_of_heap h2) (by rw [hlen]; omega) (by rw [hlen]; exact h3) (by rw [e]; show (Lib.join l [32]).length ≤ _; omega)
    · rw [e, hlen] at this
      exact this
    · rw [List.getElem?_map, Option.map_eq_some_iff] at hx
      obtain ⟨y, hy, rfl⟩ := hx
      have hj' : j < l.length := (List.getElem?_eq_some_iff.1 hy).1
      rw [Nat.zero_add, h.cellAt j (by omega), List.getElem?_map, hy]
      rfl
theorem join3 (x y z : List UInt8) : Lib.join [x, y, z] [32] = x ++ [32] ++ y ++ [32] ++ z := by simp [Lib.join, List.intercalate]
theorem join4 (x y z u : List UInt8) : Lib.join [x, y, z, u] [32] = x ++ [32] ++ y ++ [32] ++ (z ++ [32] ++ u) := by simp [Lib.join, List.intercalate]
theorem str_tv {A : ByteArray} {x : List UInt8} (h : A.data.toList = x) : Value.string A = NM.tv x := by subst h; rfl
theorem row2 (W : World) (N : Nat) (x y : Value) (hN : N ≤ W.heap.size) : (W.alloc (.cells #[x, y] 9)).ownsRow N 9 1 (.slice (some ⟨W.heap.size, 0, none⟩) 2 2) 2 [x, y] := World.ownsRow_lit W _ 2 hN (by unfold maxLen; omega) rfl
theorem by_one (W : World) (b : Nat) (hb : b < 256) : ByR (W.alloc (.cells #[.int .u8 b] 5)) (.slice (some ⟨W.heap.size, 0, none⟩) 1 1) [UInt8.ofNat b] := by
  refine ByR.of_own (N := W.heap.size) ?_
  have e : byC [UInt8.ofNat b] = [.int .u8 b] := by simp only [byC, List.map_cons, List.map_nil]; rw [u8n _ hb]
  rw [e]
  exact World.ownsRow_lit W _ 1 (Nat.le_refl _) (by unfold maxLen; omega) rfl
theorem dg_one (b : Nat) (hb : b < 256) : RM.dg [UInt8.ofNat b] = NM.hxs b 2 := by rw [RM.dg_cons, u8n _ hb]; simp [RM.dg]
set_option maxHeartbeats 4000000 in
theorem written_none (s : ByteArray) (a c : Nat) (A : Option Addr) (w : World) (hs : s.size ≤ 100) (ha : a < 4294967296) (ht : Tabs w) :
    Calls Tryd.prog 26 #[.string s, .agg #[.int .u32 a, .slice A 0 c]] w fun e w' => e = .returned (.string ⟨(RM.line s.data.toList a []).toArray⟩) ∧ Below w.heap.size w w' := by
  obtain ⟨i9, HI⟩ := info_parts str_info
  have HI := Lib.hid HI
  obtain ⟨W0, hW0⟩ : ∃ W0, w.alloc (.cells #[.int .u32 a, .slice A 0 c] 51) = W0 := ⟨_, rfl⟩
  have HB0 := Lib.hid (show Below w.heap.size w W0 from hW0 ▸ below_one w _)
  have HI0 := Lib.hid (show W0.heap[w.heap.size]? = some (.cells #[.int .u32 a, .slice A 0 c] 51 (0, 0)) from hW0 ▸ heap_alloc_new w _)
  have HT := Lib.hid ht
  have hsm := RM.sm_lt a []
  have HSO := Lib.hid (fun (W : World) (A : Option Addr) (c : Nat) => sumOf_any (w := W) (a := a) (v := .slice A 0 c) (bs := []) (.inl ⟨rfl, _, _, rfl⟩) ha (by simp))
  have HDG := Lib.hid (fun (W : World) (ht : Tabs (W.alloc (.cells #[.int .u8 (RM.sm a [] : Nat)] 5))) => digits_any (by_one W (RM.sm a []) hsm) (by simp) ht)
  rw [dg_one _ hsm] at HDG
  obtain ⟨X, hX, hX1, hX2⟩ := bt_of (NM.hxs a 8)
  obtain ⟨S, hS, hS1, hS2⟩ := bt_of (NM.hxs (RM.sm a []) 2)
  have HHX := Lib.hid (fun W => hex_any a W ha)
  rw [hX] at HHX
  rw [hS] at HDG
  have HL := Lib.hid (show RM.line s.data.toList a [] = Lib.join [s.data.toList, NM.hxs a 8, NM.hxs (RM.sm a []) 2] [32] ++ [10] by rw [join3]; unfold RM.line RM.px; rw [if_pos rfl, List.nil_append])
  have HJL := Lib.hid (show (Lib.join [s.data.toList, NM.hxs a 8, NM.hxs (RM.sm a []) 2] [32]).length ≤ 1000 by rw [join3]; simp only [List.length_append, NM.hxs_len, NM.len_eq, List.length_singleton]; omega)
  have HJO := Lib.hid (fun (W : World) (v : Value) (h : W.ownsRow w.heap.size 9 1 v 3 ([Value.string s, .string X] ++ [.string S])) => join_own (w := W) (B := w.heap.size) (v := v) (l := [s.data.toList, NM.hxs a 8, NM.hxs (RM.sm a []) 2]) (by rw [str_tv hX1, str_tv hS1] at h; exact h) (by simp) (by simp) (by have := HJL.out; omega))
  clear ht hX hX1 hX2 hS hS1 hS2
  generalize RM.sm a [] = sum at *
  generalize Lib.join [s.data.toList, NM.hxs a 8, NM.hxs sum 2] [32] = J at *
  clear hsm
  obtain ⟨T, hT, hT1, hT2⟩ := bt_of J
  rw [hT] at HJO
  have HT1 := Lib.hid hT1
  have hT3 : T.size ≤ 1000 := by rw [hT2]; exact HJL.out
  clear hT hT1 hT2
  go_enter Tryd.func26, Tryd.ntmps26
  go_upto_region 1 with fail
  have c0 := cell_of (o := 0) HI0.out rfl
  have c1 := cell_of (o := 1) HI0.out rfl
  clear hW0
  go_upto_region 2 with (go_at_call 39; refine (HHX.out _ (HT.out.on HB0.out)).mono ?_; rintro e w2 ⟨rfl, hb2⟩; have HB2 := Lib.hid (HB0.out.trans (hb2.mono HB0.out.size)); have HI2 := Lib.hid ((hb2.block _ (lt_of_heap HI0.out)).trans HI0.out); clear hb2)
  have HO2 := Lib.hid (row2 w2 w.heap.size (.string s) (.string X) HB2.out.size)
  have HB3 := Lib.hid (HB2.out.alloc HB2.out.size (.cells #[.string s, .string X] 9))
  have HI3 := Lib.hid ((Below.heap_alloc w2 (.cells #[.string s, .string X] 9) _ (lt_of_heap HI2.out)).trans HI2.out)
  obtain ⟨G, hG⟩ : ∃ G, w2.heap.size = G := ⟨_, rfl⟩
  obtain ⟨W3, hW3⟩ : ∃ W3, w2.alloc (.cells #[.string s, .string X] 9) = W3 := ⟨_, rfl⟩
  rw [hW3] at HO2 HB3 HI3 ⊢
  rw [hG] at HO2 ⊢
  clear hG hW3 c0 c1
  have d0 := cell_of (o := 0) HI3.out rfl
  have d1 := cell_of (o := 1) HI3.out rfl
  go_wp2_with (first
    | (go_at_call 41; refine (HSO.out _ _ _).mono ?_; rintro e w4 ⟨rfl, hb4⟩; have HB4 := Lib.hid (HB3.out.trans (hb4.mono HB3.out.size)); have HO4 := Lib.hid (own_below HO2.out hb4); clear hb4)
    | (go_at_call 40; refine (HDG.out _ (HT.out.on (HB4.out.alloc HB4.out.size _))).mono ?_; rintro e w5 ⟨rfl, hb5⟩; have HB5 := Lib.hid ((HB4.out.alloc HB4.out.size _).trans (hb5.mono (HB4.out.alloc HB4.out.size _).size)); have HO5 := Lib.hid (fun o => (own_below (HO4.out.alloc _) hb5).alloc o); have HB6 := Lib.hid (fun o => HB5.out.alloc HB5.out.size o); clear hb5)
    | (at_builtin; refine wpList_append_lies _ rfl _ _ 66 rfl w.heap.size 9 i9 (.string ⟨#[]⟩) 1 16 Tryd.underlying66 HI.out.1 HI.out.2.1 HI.out.2.2.1 HI.out.2.2.2 rfl (by decide) (.slice (some ⟨G, 0, none⟩) 2 2) 2 [.string s, .string X] rfl (HO5.out _) ⟨_, 0, none⟩ 1 1 [.string S] rfl rfl (S02.new_cell _ _ _) (S02.one_str _) (by decide) (by unfold maxLen; omega) (by omega) (HB6.out _).size _ rfl ?_; intro g' cap' w7 ho7 hg7 hv7 hl7; have HO7 := Lib.hid ho7; have HB7 := Lib.hid ((HB6.out _).grown hg7 (HB6.out _).size (fun k hk => (own_lt (HO5.out (.cells #[] 9)) hk).1)); clear ho7 hg7 hv7 hl7)
    | (go_at_call 42; refine (HJO.out _ _ HO7.out).mono ?_; rintro e w8 ⟨rfl, hb8⟩; have HB8 := Lib.hid (HB7.out.trans (hb8.mono HB7.out.size)); clear hb8))
  go_ret
  exact ⟨S02.ret_str (by rw [NM.data_app, HT1.out]; exact HL.out.symm), HB8.out⟩
end Go.Proofs.YtcilhippjiichaaDoor
/-! WalkG -/
namespace Go.Proofs.YtcilhippjiichaaDoor
open Go.RowKit Go.Maps S02
set_option maxHeartbeats 4000000 in
theorem written_some (s : ByteArray) (a n c : Nat) (A : Option Addr) (bs : List UInt8) (w : World) (hs : s.size ≤ 100) (ha : a < 4294967296) (hn : Hid (bs.length = n)) (h0 : 0 < n) (h1 : n ≤ 100) (hx : ByR w (.slice A n c) bs) (ht : Tabs w) :
    Calls Tryd.prog 26 #[.string s, .agg #[.int .u32 a, .slice A n c]] w fun e w' => e = .returned (.string ⟨(RM.line s.data.toList a bs).toArray⟩) ∧ Below w.heap.size w w' := by
  obtain ⟨i9, HI⟩ := info_parts str_info
  have HI := Lib.hid HI
  obtain ⟨W0, hW0⟩ : ∃ W0, w.alloc (.cells #[.int .u32 a, .slice A n c] 51) = W0 := ⟨_, rfl⟩
  have HB0 := Lib.hid (show Below w.heap.size w W0 from hW0 ▸ below_one w _)
  have HI0 := Lib.hid (show W0.heap[w.heap.size]? = some (.cells #[.int .u32 a, .slice A n c] 51 (0, 0)) from hW0 ▸ heap_alloc_new w _)
  have HT := Lib.hid ht
  have hsm := RM.sm_lt a bs
  have HSO := Lib.hid (fun (W : World) (hb : Below w.heap.size w W) => sumOf_any (hx.below hb) ha (by rw [hn.out]; omega))
  have HDD := Lib.hid (fun (W : World) (hb : Below w.heap.size w W) => digits_any (hx.below hb) (by rw [hn.out]; omega) (ht.on hb))
  have HDG := Lib.hid (fun (W : World) (ht : Tabs (W.alloc (.cells #[.int .u8 (RM.sm a bs : Nat)] 5))) => digits_any (by_one W (RM.sm a bs) hsm) (by simp) ht)
  rw [dg_one _ hsm] at HDG
  obtain ⟨X, hX, hX1, hX2⟩ := bt_of (NM.hxs a 8)
  obtain ⟨D, hD, hD1, hD2⟩ := bt_of (RM.dg bs)
  obtain ⟨S, hS, hS1, hS2⟩ := bt_of (NM.hxs (RM.sm a bs) 2)
  have HHX := Lib.hid (fun W => hex_any a W ha)
  rw [hX] at HHX
  rw [hS] at HDG
  rw [hD] at HDD
  have hb0 : bs ≠ [] := fun h => by have := hn.out; rw [h] at this; simp at this; omega
  have HL := Lib.hid (show RM.line s.data.toList a bs = Lib.join [s.data.toList, NM.hxs a 8, RM.dg bs, NM.hxs (RM.sm a bs) 2] [32] ++ [10] by rw [join4]; unfold RM.line RM.px; rw [if_neg hb0])
  have HJL := Lib.hid (show (Lib.join [s.data.toList, NM.hxs a 8, RM.dg bs, NM.hxs (RM.sm a bs) 2] [32]).length ≤ 1000 by rw [join4]; simp only [List.length_append, NM.hxs_len, NM.len_eq, List.length_singleton, RM.dg_len, hn.out]; omega)
  have HJO := Lib.hid (fun (W : World) (v : Value) (h : W.ownsRow w.heap.size 9 1 v 4 (([Value.string s, .string X] ++ [.string D]) ++ [.string S])) => join_own (w := W) (B := w.heap.size) (v := v) (l := [s.data.toList, NM.hxs a 8, RM.dg bs, NM.hxs (RM.sm a bs) 2]) (by rw [str_tv hX1, str_tv hS1, str_tv hD1] at h; exact h) (by simp) (by simp) (by have := HJL.out; omega))
  clear ht hX hX1 hX2 hS hS1 hS2 hD hD1 hD2 hb0 hx
  generalize RM.sm a bs = sum at *
  generalize Lib.join [s.data.toList, NM.hxs a 8, RM.dg bs, NM.hxs sum 2] [32] = J at *
  clear hsm
  obtain ⟨T, hT, hT1, hT2⟩ := bt_of J
  rw [hT] at HJO
  have HT1 := Lib.hid hT1
  have hT3 : T.size ≤ 1000 := by rw [hT2]; exact HJL.out
  clear hT hT1 hT2
  go_enter Tryd.func26, Tryd.ntmps26
  go_upto_region 1 with fail
  have c0 := cell_of (o := 0) HI0.out rfl
  have c1 := cell_of (o := 1) HI0.out rfl
  clear hW0
  go_upto_region 2 with (go_at_call 39; refine (HHX.out _ (HT.out.on HB0.out)).mono ?_; rintro e w2 ⟨rfl, hb2⟩; have HB2 := Lib.hid (HB0.out.trans (hb2.mono HB0.out.size)); have HI2 := Lib.hid ((hb2.block _ (lt_of_heap HI0.out)).trans HI0.out); clear hb2)
  have HO2 := Lib.hid (row2 w2 w.heap.size (.string s) (.string X) HB2.out.size)
  have HB3 := Lib.hid (HB2.out.alloc HB2.out.size (.cells #[.string s, .string X] 9))
  have HI3 := Lib.hid ((Below.heap_alloc w2 (.cells #[.string s, .string X] 9) _ (lt_of_heap HI2.out)).trans HI2.out)
  obtain ⟨G, hG⟩ : ∃ G, w2.heap.size = G := ⟨_, rfl⟩
  obtain ⟨W3, hW3⟩ : ∃ W3, w2.alloc (.cells #[.string s, .string X] 9) = W3 := ⟨_, rfl⟩
  rw [hW3] at HO2 HB3 HI3 ⊢
  rw [hG] at HO2 ⊢
  clear hG hW3 c0 c1
  have d0 := cell_of (o := 0) HI3.out rfl
  have d1 := cell_of (o := 1) HI3.out rfl
  go_upto_region 4 with (first
    | (go_at_call 40; refine (HDD.out _ HB3.out).mono ?_; rintro e w4 ⟨rfl, hb4⟩; have HB4 := Lib.hid (HB3.out.trans (hb4.mono HB3.out.size)); have HO4 := Lib.hid (fun o => (own_below HO2.out hb4).alloc o); have HB5 := Lib.hid (fun o => HB4.out.alloc HB4.out.size o); have HI4 := Lib.hid (fun o => (Below.heap_alloc w4 o _ (by have := lt_of_heap HI3.out; have := hb4.size; omega)).trans ((hb4.block _ (lt_of_heap HI3.out)).trans HI3.out)); clear hb4)
    | (at_builtin; refine wpList_append_lies _ rfl _ _ 66 rfl w.heap.size 9 i9 (.string ⟨#[]⟩) 1 16 Tryd.underlying66 HI.out.1 HI.out.2.1 HI.out.2.2.1 HI.out.2.2.2 rfl (by decide) (.slice (some ⟨G, 0, none⟩) 2 2) 2 [.string s, .string X] rfl (HO4.out _) ⟨_, 0, none⟩ 1 1 [.string D] rfl rfl (S02.new_cell _ _ _) (S02.one_str _) (by decide) (by unfold maxLen; omega) (by omega) (HB5.out _).size _ rfl ?_; intro g5 cap5 w5 ho5 hg5 hv5 hl5; have HO5 := Lib.hid ho5; have HB6 := Lib.hid ((HB5.out _).grown hg5 (HB5.out _).size (fun k hk => (own_lt (HO4.out (.cells #[] 9)) hk).1)); have HI5 := Lib.hid ((hg5.block w.heap.size (lt_of_heap (HI4.out _)) (fun e => by obtain ⟨_, _, cs, hcs⟩ := own_lt (HO4.out (.cells #[] 9)) e.symm; exact kind_ne (HI4.out (.cells #[] 9)) hcs (by decide) rfl)).trans (HI4.out _)); clear ho5 hg5 hv5 hl5))
  have f0 := cell_of (o := 0) HI5.out rfl
  have f1 := cell_of (o := 1) HI5.out rfl
  go_wp2_with (first
    | (go_at_call 41; refine (HSO.out _ HB6.out).mono ?_; rintro e w6 ⟨rfl, hb6⟩; have HB7 := Lib.hid (HB6.out.trans (hb6.mono HB6.out.size)); have HO6 := Lib.hid (own_below HO5.out hb6); clear hb6)
    | (go_at_call 40; refine (HDG.out _ (HT.out.on (HB7.out.alloc HB7.out.size _))).mono ?_; rintro e w7 ⟨rfl, hb7⟩; have HB8 := Lib.hid ((HB7.out.alloc HB7.out.size _).trans (hb7.mono (HB7.out.alloc HB7.out.size _).size)); have HO7 := Lib.hid (fun o => (own_below (HO6.out.alloc _) hb7).alloc o); have HB9 := Lib.hid (fun o => HB8.out.alloc HB8.out.size o); clear hb7)
    | (at_builtin; refine wpList_append_lies _ rfl _ _ 66 rfl w.heap.size 9 i9 (.string ⟨#[]⟩) 1 16 Tryd.underlying66 HI.out.1 HI.out.2.1 HI.out.2.2.1 HI.out.2.2.2 rfl (by decide) (.slice (some ⟨g5, 0, none⟩) 3 cap5) 3 ([.string s, .string X] ++ [.string D]) rfl (HO7.out _) ⟨_, 0, none⟩ 1 1 [.string S] rfl rfl (S02.new_cell _ _ _) (S02.one_str _) (by decide) (by unfold maxLen; omega) (by omega) (HB9.out _).size _ rfl ?_; intro g' cap' w8 ho8 hg8 hv8 hl8; have HO8 := Lib.hid ho8; have HB10 := Lib.hid ((HB9.out _).grown hg8 (HB9.out _).size (fun k hk => (own_lt (HO7.out (.cells #[] 9)) hk).1)); clear ho8 hg8 hv8 hl8)
    | (go_at_call 42; refine (HJO.out _ _ HO8.out).mono ?_; rintro e w9 ⟨rfl, hb9⟩; have HB11 := Lib.hid (HB10.out.trans (hb9.mono HB10.out.size)); clear hb9))
  go_ret
  exact ⟨S02.ret_str (by rw [NM.data_app, HT1.out]; exact HL.out.symm), HB11.out⟩
theorem written_any {w : World} {v : Value} {bs : List UInt8} (s : ByteArray) (a : Nat) (h : ByR w v bs) (hs : s.size ≤ 100) (ha : a < 4294967296) (hl : bs.length ≤ 100) (ht : Tabs w) :
    Calls Tryd.prog 26 #[.string s, .agg #[.int .u32 a, v]] w fun e w' => e = .returned (.string ⟨(RM.line s.data.toList a bs).toArray⟩) ∧ Below w.heap.size w w' := by
  obtain ⟨A, c, rfl⟩ := by_form h
  by_cases h0 : bs = []
  · subst h0; exact written_none s a c A w hs ha ht
  · exact written_some s a _ c A bs w hs ha (Lib.hid rfl) (List.length_pos_iff.mpr h0) hl h ht
end Go.Proofs.YtcilhippjiichaaDoor
