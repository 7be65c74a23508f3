/-
  What Write makes: new memory with the number stored; nothing that was there is changed. For every slice of bytes of a bounded length.
-/
import Derived.Test.YtdkpigfhdiopmaaWalkC
import Derived.Laws.CopyOwn
import Derived.Deep.RegionLaw
import Derived.Deep.Cut
namespace Go.Proofs.Ytdkpigfhdiopmaa
open Go.RowKit Go.Maps S01
/-- What a write answers. -/
def MM.wt (m : List UInt8) (x s : Int) (u : Nat) : List UInt8 := if MM.ck m.length x s = 0 then MM.wr m x.toNat s.toNat u else []
theorem splice_front {α : Type} (L : List α) (z n : Nat) (ds : List α) (h : z + ds.length ≤ n) (hn : n ≤ L.length) : (splice L z ds).take n = splice (L.take n) z ds := by
  unfold splice
  rw [List.take_append, List.length_take, Nat.min_eq_left (show z ≤ L.length by omega), List.take_of_length_le (by rw [List.length_take]; omega), List.take_append, List.take_of_length_le (show ds.length ≤ n - z by omega), List.take_take, Nat.min_eq_left (show z ≤ n by omega), List.drop_take, show n - z - ds.length = n - (z + ds.length) by omega]
theorem own_spliced {w : World} {G n cap N z : Nat} {cur : List Value} {bs ds : List UInt8} (hg : w.heap[G]? = some (.cells (splice cur z (byC ds)).toArray 5 (0, 0))) (hN : N ≤ G) (hnc : n ≤ cap) (hcm : cap ≤ maxLen) (hsz : cur.length = cap * 1) (htake : cur.take (n * 1) = byC bs) (hn : bs.length = n) (hf : z + ds.length ≤ n) :
    w.ownsRow N 5 1 (.slice (some ⟨G, 0, none⟩) n cap) n (byC (splice bs z ds)) := by
  rw [Nat.mul_one] at hsz htake
  refine ⟨by rw [byC_len, length_splice _ _ _ (by omega)]; omega, .inr ⟨G, cap, _, rfl, hN, hg, hnc, hcm, ?_, ?_⟩⟩
  · rw [List.size_toArray, length_splice _ _ _ (by rw [byC_len]; omega)]; omega
  · rw [Nat.mul_one, List.toList_toArray, splice_front _ _ _ _ (by rw [byC_len]; omega) (by omega), htake, byC_splice]
theorem own_gone {w : World} {N n : Nat} {v : Value} {bs : List UInt8} (h : w.ownsRow N 5 1 v n (byC bs)) (h0 : 0 < n) : ∃ G cap cur, v = .slice (some ⟨G, 0, none⟩) n cap ∧ N ≤ G ∧ w.heap[G]? = some (.cells (cur : List Value).toArray 5 (0, 0)) ∧ n ≤ cap ∧ cap ≤ maxLen ∧ cur.length = cap * 1 ∧ cur.take (n * 1) = byC bs := by
  rcases h.2 with ⟨_, h⟩ | ⟨g, cap, cur, h1, h2, h3, h4, h5, h6, h7⟩
  · omega
  · exact ⟨g, cap, cur.toList, h1, h2, by rw [h3], h4, h5, by rw [Array.length_toList]; exact h6, h7⟩
set_option maxHeartbeats 3200000 in
theorem write_any {w : World} {v : Value} {bs : List UInt8} (x s : Int) (u : Nat) (hv : ByR w v bs) (hn : bs.length ≤ 1000000) (h0 : 0 ≤ x) (hx : x < 4294967296) :
    Calls Try.prog 16 #[v, .int .u32 x, .int .i64 s, .int .u32 u] w fun e w' => ∃ v', e = .returned (.tuple #[v', .int .i64 (MM.ck bs.length x s)]) ∧ ByR w' v' (MM.wt bs x s u) ∧ Below w.heap.size w w' := by
  obtain ⟨a, c, rfl⟩ := by_form hv
  obtain ⟨n, hnn⟩ : ∃ n, bs.length = n := ⟨_, rfl⟩
  have hm : n ≤ 1000000 := by rw [← hnn]; exact hn
  have HC := fun W => check_any a n c x s W (by unfold maxLen; omega) h0 hx
  rcases ck_two n x s with hk | hk
  · have HWT := Lib.hid (show MM.wt bs x s u = splice bs x.toNat (MM.vB u s.toNat) by unfold MM.wt; rw [hnn, if_pos hk]; rfl)
    obtain ⟨hs, hf⟩ := ck_open hk
    obtain ⟨z, rfl⟩ : ∃ z : Nat, x = z := ⟨x.toNat, by omega⟩
    obtain ⟨q, rfl⟩ : ∃ q : Nat, s = q := ⟨s.toNat, by omega⟩
    have hq : 1 ≤ q ∧ q ≤ 4 := by omega
    have hf' : z + q ≤ n := by omega
    have HCL := Lib.hid (clone_any hv (by intro e; rw [e] at hnn; simp at hnn; omega) (by omega))
    rw [hnn] at hv HCL
    rw [hnn, hk]
    simp only [hk] at HC
    replace HC := Lib.hid HC
    have HBY := Lib.hid (fun W => bytes_any (u : Int) q q W (Lib.hid (BM.cl_in _ _ _ (by omega) (by omega))) (by omega))
    rw [MM.bl_vB] at HBY
    have HNN := Lib.hid hnn
    clear hs hk hv hn hnn
    have hzn : (z : Int) ≤ n := by omega
    go_enter Try.func16, Try.ntmps16
    go_upto_region 5 with (first | (go_at_call 11; refine (HC.out _).mono ?_; rintro e w2 ⟨rfl, rfl⟩) | (go_at_call 24; refine HCL.out.mono ?_; rintro e w2 ⟨v', rfl, ho, hb⟩; have HO := Lib.hid ho; have HB := Lib.hid hb; clear ho hb))
    obtain ⟨G, cap, cur, rfl, hG, hcu, hnc, hcm, hsz, htk⟩ := own_gone HO.out (by omega)
    have hcm' : cap ≤ 9223372036854775807 := hcm
    have HCM := Lib.hid hcm
    have HSZ := Lib.hid hsz
    have HTK := Lib.hid htk
    have HG := Lib.hid hG
    have HCU := Lib.hid hcu
    have hcz : ¬ cap = z := by omega
    have HLQ := Lib.hid (show (byC (MM.vB u q)).length = Nat.min q (n - z) by rw [byC_len, MM.vB_len]; exact (Nat.min_eq_left (by omega)).symm)
    have HFI := Lib.hid (show z + (byC (MM.vB u q)).length ≤ cur.length by rw [byC_len, MM.vB_len]; omega)
    clear hcm hsz htk hG hcu
    go_region_law (first
      | (go_simp; go_at_call 25; refine (HBY.out _).mono ?_; rintro e w3 ⟨rfl, hown, hb3⟩; have HB3 := Lib.hid (HB.out.drew.trans (hb3.mono HB.out.drew.size)); have HCU3 := Lib.hid ((hb3.block G (lt_of_heap HCU.out)).trans HCU.out); have HSR := Lib.hid (show ∀ j x, (byC (MM.vB u q))[j]? = some x → w3.cell? ((⟨w2.heap.size, 0, none⟩ : Addr).add j) = some x from fun j x hj => (hown.cells rfl j x (by rw [← byC_cs]; exact hj))); clear hown hb3)
      | (refine step_copy_splice rfl (.tmp 23) (.tmp 26) 22 22 rfl 5 Try.underlying22 (by kernel_rfl) (some ⟨G, z, none⟩) (some ⟨w2.heap.size, 0, none⟩) (n - z) (cap - z) q q (by simp [Act.eval]) (by simp [Act.eval]) G z cur 5 HCU3.out (byC (MM.vB u q)) HLQ.out (fun _ => ⟨rfl, _, rfl, HSR.out⟩) HFI.out (byC_one _) w.heap.size w HB3.out HG.out ?_; intro w5 hK5 hB5; have HB5 := Lib.hid hB5; clear hB5))
    all_goals
      go_wp2
      go_ret2
      refine ⟨_, rfl, ?_, HB5.out⟩
      rw [HWT.out]
      have hown := own_spliced hK5.out HG.out hnc HCM.out HSZ.out HTK.out HNN.out (by rw [MM.vB_len]; exact hf')
      refine ByR.of_own (N := w.heap.size) ?_
      rw [length_splice _ _ _ (by have := HNN.out; rw [MM.vB_len]; omega), HNN.out]
      exact hown
  · have HWT := Lib.hid (show MM.wt bs x s u = [] by unfold MM.wt; rw [hnn, if_neg (by omega)])
    rw [hnn, hk]
    simp only [hk] at HC
    replace HC := Lib.hid HC
    clear hk hv
    go_enter Try.func16, Try.ntmps16
    go_wp2_with (first | (go_at_call 11; refine (HC.out _).mono ?_; rintro e w2 ⟨rfl, rfl⟩))
    go_ret2
    exact ⟨_, rfl, .inl ⟨HWT.out, _, _, rfl⟩, Below.refl _ _⟩
end Go.Proofs.Ytdkpigfhdiopmaa
