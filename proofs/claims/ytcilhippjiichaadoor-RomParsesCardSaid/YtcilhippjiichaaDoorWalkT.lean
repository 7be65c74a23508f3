/-
  What Parse answers: the image of a text's lines, or which line is wrong, and why. No condition but the text's length, and that the library's one number is a number.
-/
import Derived.Test.YtcilhippjiichaaDoorWalkS
namespace Go.Proofs.YtcilhippjiichaaDoor
open Go.RowKit Go.Maps S02
theorem QZ.start {w W0 w2 : World} {rv : Value} {acc : List (List UInt8)} (h0 : W0.heap[w.heap.size]? = some (.cells #[.int .u32 0, .slice none 0 0] 25 (0, 0))) (hb : Below w.heap.size w W0) (hr : Row W0 w2 rv acc) : QZ w ((w2.alloc (.cells #[.int .u32 0, .slice none 0 0] 25)).alloc (.cells #[.string ⟨#[]⟩, .int .u32 0, .slice none 0 0, .int .u8 0] 70)) w.heap.size w2.heap.size (w2.heap.size + 1) rv acc 0 0 0 (.slice none 0 0) [] ⟨#[]⟩ none 0 0 := by
  obtain ⟨h1, h2⟩ := hr
  have e0 := (h2.block _ (lt_of_heap h0)).trans h0
  have hl := lt_of_heap e0
  have hb2 := below_two w2 (.cells #[.int .u32 0, .slice none 0 0] 25) (.cells #[.string ⟨#[]⟩, .int .u32 0, .slice none 0 0, .int .u8 0] 70)
  refine ⟨(hb2.block _ hl).trans e0, ?_, ?_, own_blk (own_base h1 hb.size) hb2, SG.nil _ _, ?_, hl, by omega, by omega⟩
  · rw [Below.heap_alloc _ _ _ (by simp)]; exact heap_alloc_new w2 _
  · have := heap_alloc_new (w2.alloc (.cells #[.int .u32 0, .slice none 0 0] 25)) (.cells #[.string ⟨#[]⟩, .int .u32 0, .slice none 0 0, .int .u8 0] 70)
    simpa using this
  · exact (hb.trans (h2.mono hb.size)).trans (hb2.mono (Nat.le_of_lt hl))
set_option maxHeartbeats 8000000 in
theorem parse_bad (s : ByteArray) (w : World) (hs : s.size ≤ 9223372036854775807) (he : NM.lE s.data.toList ≠ 0) : Calls Tryd.prog 20 #[.string s] w (PsPost w s.data.toList) := by
  have HP := Lib.hid (show RM.PA s.data.toList = ([], 0, 0, NM.lE s.data.toList) by unfold RM.PA; rw [if_neg he])
  have HL := Lib.hid (fun W => lines_any s W hs)
  obtain ⟨E, hE⟩ : ∃ E, NM.lE s.data.toList = E := ⟨_, rfl⟩
  rw [hE] at HP HL he
  have he' : (E == 0) = false := by simpa using he
  have HR := Lib.hid (show (w.alloc (.cells #[.int .u32 0, .slice none 0 0] 25)).heap[w.heap.size]? = some (.cells #[.int .u32 0, .slice none 0 0] 25 (0, 0)) from heap_alloc_new w _)
  have HB := Lib.hid (below_one w (.cells #[.int .u32 0, .slice none 0 0] 25))
  obtain ⟨W0, hW0⟩ : ∃ W0, w.alloc (.cells #[.int .u32 0, .slice none 0 0] 25) = W0 := ⟨_, rfl⟩
  rw [hW0] at HR HB
  clear hE
  go_enter Tryd.func20, Tryd.ntmps20
  go_upto_region 1 with fail
  clear hW0
  go_upto_region 2 with (go_at_call 32; refine (HL.out _).mono ?_; rintro e w2 ⟨v, rfl, hr2⟩; have HB2 := Lib.hid (HB.out.trans (hr2.2.mono HB.out.size)); have HR2 := Lib.hid ((hr2.2.block _ (lt_of_heap HR.out)).trans HR.out); clear hr2)
  have r0 := cell_of (o := 0) HR2.out rfl
  have r1 := cell_of (o := 1) HR2.out rfl
  have rf : ∀ o, w2.frozen? ⟨w.heap.size, o, none⟩ = false := fun o => unfrozen HR2.out
  go_wp2
  refine bodyPost_ret (v := .tuple #[.agg #[.int .u32 0, .slice none 0 0], .int .i64 0, .int .i64 E]) (by simp [results, Tryd.results20, go_sem, r0, r1]) rfl ?_
  exact PsPost.bad HP.out ((HB2.out.setCell (Nat.le_refl _) _).setCell (Nat.le_refl _) _)
end Go.Proofs.YtcilhippjiichaaDoor
