/-
  The comparison of bytes and of images that are the same.
-/
import Derived.Test.YtcilhippjiichaaDoorRfH
import Derived.Deep.QuietTactic
import Derived.BigQuiet
namespace Go.Proofs.YtcilhippjiichaaDoor
open Go.RowKit Go.Maps S02
theorem bytes_none (ao bo : Option Addr) (c d : Nat) (w : World) :
    Calls Tryd.prog 13 #[.slice ao 0 c, .slice bo 0 d] w fun e w' => e = .returned (.bool true) ∧ S02.Dr w w' := by
  go_enter Tryd.func13, Tryd.ntmps13
  go_wp2
  refine wp_loop_rounds 1 ?_
  rw [rounds_succ]
  go_wp2
  go_ret
  exact ⟨rfl, S02.Dr.refl _⟩
set_option maxHeartbeats 800000 in
theorem bytes_some (g o h p n c d : Nat) (l : List UInt8) (w : World) (hn : n ≤ 100000) (H1 : Hid (∀ i, i < n → w.cell? ⟨g, o + i, none⟩ = some (.int .u8 (l.getD i 0).toNat))) (H2 : Hid (∀ i, i < n → w.cell? ⟨h, p + i, none⟩ = some (.int .u8 (l.getD i 0).toNat))) :
    Calls Tryd.prog 13 #[.slice (some ⟨g, o, none⟩) n c, .slice (some ⟨h, p, none⟩) n d] w fun e w' => e = .returned (.bool true) ∧ S02.Dr w w' := by
  go_enter Tryd.func13, Tryd.ntmps13
  go_wp2
  go_loopw [5] (fun i wr => ∃ k : Nat, k ≤ n ∧ i = .int .i64 k ∧ S02.Dr w wr) (fun i _ => n - (intOf i).toNat)
  case atStart => exact ⟨0, by omega, rfl, S02.Dr.refl _⟩
  case round =>
    obtain ⟨k, hk, rfl, hdr⟩ := hrel
    by_cases hlt : k < n
    · have h1 := (hdr.cell _).trans (H1.out k (by omega))
      have h2 := (hdr.cell _).trans (H2.out k (by omega))
      have HD := Lib.hid hdr
      clear hdr
      generalize ((l.getD k 0).toNat : Int) = x at *
      go_wp2
      go_quiet (fail)
      go_wp2
      go_roundw
      case rel => exact ⟨k + 1, by omega, by go_num, HD.out.more _⟩
      case measure => simp [intOf]; omega
    · have HD := Lib.hid hdr
      clear hdr
      go_wp2
      go_ret
      exact ⟨rfl, HD.out⟩
theorem bytes_same {w : World} {x y : Value} {bs : List UInt8} (hx : ByR w x bs) (hy : ByR w y bs) (hl : bs.length ≤ 100000) : Calls Tryd.prog 13 #[x, y] w fun e w' => e = .returned (.bool true) ∧ S02.Dr w w' := by
  rcases hx with ⟨rfl, a, c, rfl⟩ | ⟨h0, g, o, c, rfl, -, -, h1⟩
  · rcases hy with ⟨-, b, d, rfl⟩ | ⟨h0, _⟩
    · exact bytes_none a b c d w
    · exact absurd rfl h0
  · rcases hy with ⟨h, _⟩ | ⟨-, h, p, d, rfl, -, -, h2⟩
    · exact absurd h h0
    · exact bytes_some g o h p _ c d bs w hl (Lib.hid h1) (Lib.hid h2)
/-- A call that only draws, from any number of draws on. -/
theorem dr_any {f : Nat} {us : Array Value} {w : World} {v : Value} (h : ∀ n, Calls Tryd.prog f us (w.drewN n) fun e w' => e = .returned v ∧ S02.Dr (w.drewN n) w') (n : Nat) : Calls Tryd.prog f us (w.drewN n) fun e w' => e = .returned v ∧ ∃ k, w' = w.drewN k :=
  (h n).mono fun e w' ⟨h1, k, h2⟩ => ⟨h1, n + k, by rw [h2]; simp⟩
set_option maxHeartbeats 1600000 in
theorem image_same {w : World} {st : Int} {x y : Value} {l : List (Nat × List UInt8)} (hx : SgR w x l) (hy : SgR w y l) (hl : l.length ≤ 100000) (hb : ∀ p ∈ l, p.2.length ≤ 100000) :
    Calls Tryd.prog 22 #[.agg #[.int .u32 st, x], .agg #[.int .u32 st, y]] w fun e w' => e = .returned (.bool true) ∧ Below w.heap.size w w' := by
  obtain ⟨xa, xc, rfl⟩ := sv_form hx
  obtain ⟨ya, yc, rfl⟩ := sv_form hy
  obtain ⟨n, hn⟩ : ∃ n, l.length = n := ⟨_, rfl⟩
  rw [hn] at hl hx hy ⊢
  obtain ⟨W0, hW0⟩ : ∃ W0, (w.alloc (.cells #[.int .u32 st, .slice xa n xc] 25)).alloc (.cells #[.int .u32 st, .slice ya n yc] 25) = W0 := ⟨_, rfl⟩
  have HB0 := Lib.hid (show Below w.heap.size w W0 from hW0 ▸ below_two w _ _)
  have hc1 : W0.heap[w.heap.size]? = some (.cells #[.int .u32 st, .slice xa n xc] 25 (0, 0)) := by rw [← hW0, Below.heap_alloc _ _ _ (by simp)]; exact heap_alloc_new w _
  have hc2 : W0.heap[w.heap.size + 1]? = some (.cells #[.int .u32 st, .slice ya n yc] 25 (0, 0)) := by
    have := heap_alloc_new (w.alloc (.cells #[.int .u32 st, .slice xa n xc] 25)) (.cells #[.int .u32 st, .slice ya n yc] 25)
    rw [hW0] at this
    simpa using this
  have HC1 := Lib.hid hc1
  have HC2 := Lib.hid hc2
  have HX := Lib.hid (hx.below HB0.out)
  have HY := Lib.hid (hy.below HB0.out)
  have HN := Lib.hid hn
  have HBB := Lib.hid hb
  have c0 := cell_of (o := 0) hc1 rfl
  have c1 := cell_of (o := 1) hc1 rfl
  have d0 := cell_of (o := 0) hc2 rfl
  have d1 := cell_of (o := 1) hc2 rfl
  clear hx hy hn hb hc1 hc2
  go_enter Tryd.func22, Tryd.ntmps22
  go_upto_region 1 with fail
  clear hW0
  go_wp2
  go_loopw [5] (fun i wr => ∃ k : Nat, k ≤ n ∧ i = .int .i64 k ∧ Hid (S02.Dr W0 wr)) (fun i _ => n - (intOf i).toNat)
  case atStart => exact ⟨0, by omega, rfl, Lib.hid (S02.Dr.refl _)⟩
  case round =>
    obtain ⟨k, hk, rfl, hdr⟩ := hrel
    replace c0 := (hdr.out.cell _).trans c0
    replace c1 := (hdr.out.cell _).trans c1
    replace d0 := (hdr.out.cell _).trans d0
    replace d1 := (hdr.out.cell _).trans d1
    by_cases hlt : k < n
    · have hkl : k < l.length := by rw [HN.out]; exact hlt
      obtain ⟨⟨a, bs⟩, hp⟩ : ∃ p, l[k]? = some p := ⟨_, List.getElem?_eq_getElem hkl⟩
      have hb2 := HBB.out (a, bs) (List.mem_of_getElem? hp)
      obtain ⟨g, o, rfl, z1, d, z2, z3⟩ : ∃ g o, xa = some ⟨g, o, none⟩ ∧ W0.cell? ⟨g, o + k * 2, none⟩ = some (.int .u32 a) ∧ ∃ d, W0.cell? ⟨g, o + k * 2 + 1, none⟩ = some d ∧ ByR W0 d bs := by
        rcases HX.out with ⟨h, -⟩ | ⟨-, g, o, c, h, h3⟩
        · rw [h] at hkl; simp at hkl
        · injection h with h1 h2 h4
          obtain ⟨q1, d, q2, q3⟩ := h3 k _ hp
          exact ⟨g, o, h1, q1, d, q2, q3⟩
      obtain ⟨h, p, rfl, y1, d', y2, y3⟩ : ∃ g o, ya = some ⟨g, o, none⟩ ∧ W0.cell? ⟨g, o + k * 2, none⟩ = some (.int .u32 a) ∧ ∃ d, W0.cell? ⟨g, o + k * 2 + 1, none⟩ = some d ∧ ByR W0 d bs := by
        rcases HY.out with ⟨h, -⟩ | ⟨-, g, o, c, h, h3⟩
        · rw [h] at hkl; simp at hkl
        · injection h with h1 h2 h4
          obtain ⟨q1, d, q2, q3⟩ := h3 k _ hp
          exact ⟨g, o, h1, q1, d, q2, q3⟩
      have HS := Lib.hid (dr_any (w := wr) (f := 13) (us := #[d, d']) (v := .bool true) fun n => by
        have hb3 : Below W0.heap.size W0 (wr.drewN n) := hdr.out.below.trans (below_drewN' wr n |>.mono hdr.out.below.size)
        exact bytes_same (z3.below hb3) (y3.below hb3) hb2)
      replace z1 := (hdr.out.cell _).trans z1
      replace z2 := (hdr.out.cell _).trans z2
      replace y1 := (hdr.out.cell _).trans y1
      replace y2 := (hdr.out.cell _).trans y2
      clear z3 y3 hp hb2 hkl
      go_wp2
      go_quiet (first | (go_at_call 13; exact HS.out _))
      go_wp2
      go_roundw
      case rel => exact ⟨k + 1, by omega, by go_num, Lib.hid (hdr.out.more _)⟩
      case measure => simp [intOf]; omega
    · go_wp2
      go_ret
      exact ⟨rfl, HB0.out.trans (hdr.out.below.mono HB0.out.size)⟩
end Go.Proofs.YtcilhippjiichaaDoor
