/-
  What the reference's Write makes: the same memory. For every slice of bytes of a bounded length.
-/
import Derived.Test.YtdkpigfhdiopmaaWalkD
namespace Go.Proofs.Ytdkpigfhdiopmaa
open Go.RowKit Go.Maps S01
theorem wr_zero (bs : List UInt8) (z u : Nat) : splice bs z (MM.vB u 0) = bs := by
  unfold splice
  show bs.take z ++ ([] ++ bs.drop (z + 0)) = bs
  rw [Nat.add_zero, List.nil_append, List.take_append_drop]
theorem wr_step {bs : List UInt8} {z k : Nat} (u : Nat) (h : z + k < bs.length) : (byC (splice bs z (MM.vB u k))).set (z + k) (.int .u8 (((u / 2 ^ (8 * k) : Nat) : Int) % 256)) = byC (splice bs z (MM.vB u (k + 1))) := by
  have e : Value.int .u8 (((u / 2 ^ (8 * k) : Nat) : Int) % 256) = (fun b : UInt8 => Value.int .u8 b.toNat) (UInt8.ofNat (u / 2 ^ (8 * k))) := by
    show _ = Value.int .u8 ((UInt8.ofNat (u / 2 ^ (8 * k))).toNat : Int)
    rw [UInt8.toNat_ofNat']
    congr 1
  rw [e, byC, ← List.map_set]
  show _ = List.map _ _
  congr 1
  unfold splice
  rw [MM.vB_len, MM.vB_len, MM.vB_succ, List.set_append_right _ _ (by rw [List.length_take]; omega), List.length_take, Nat.min_eq_left (by omega), show z + k - z = k by omega, List.set_append_right _ _ (by rw [MM.vB_len]; omega), MM.vB_len, Nat.sub_self, List.drop_eq_getElem_cons h, List.set_cons_zero, List.append_assoc, Nat.add_assoc]
  rfl
set_option maxHeartbeats 3200000 in
theorem rwrite_any {w : World} {v : Value} {bs : List UInt8} (x s : Int) (u : Nat) (hv : ByR w v bs) (hn : bs.length ≤ 1000000) (h0 : 0 ≤ x) (hx : x < 4294967296) (hu : u < 4294967296) :
    Calls Try.prog 17 #[v, .int .u32 x, .int .i64 s, .int .u32 u] w fun e w' => ∃ v', e = .returned (.tuple #[v', .int .i64 (MM.ck bs.length x s)]) ∧ ByR w' v' (MM.wt bs x s u) ∧ Below w.heap.size w w' := by
  obtain ⟨a, c, rfl⟩ := by_form hv
  obtain ⟨n, hnn⟩ : ∃ n, bs.length = n := ⟨_, rfl⟩
  have hm : n ≤ 1000000 := by rw [← hnn]; exact hn
  have HC := fun W => rcheck_any a n c x s W (by unfold maxLen; omega) h0 hx
  rcases ck_two n x s with hk | hk
  · have HWT := Lib.hid (show MM.wt bs x s u = splice bs x.toNat (MM.vB u s.toNat) by unfold MM.wt; rw [hnn, if_pos hk]; rfl)
    obtain ⟨hs, hf⟩ := ck_open hk
    obtain ⟨z, rfl⟩ : ∃ z : Nat, x = z := ⟨x.toNat, by omega⟩
    obtain ⟨q, rfl⟩ : ∃ q : Nat, s = q := ⟨s.toNat, by omega⟩
    have hq : 1 ≤ q ∧ q ≤ 4 := by omega
    have hf' : z + q ≤ n := by omega
    have HV := Lib.hid (hv.below (below_one w (.cells #[] 5)))
    have HLN := Lib.hid (show 0 + bs.length ≤ 100000000 by omega)
    have HO := Lib.hid (own_new w)
    rw [hnn] at hv HV
    rw [hnn, hk]
    simp only [hk] at HC
    replace HC := Lib.hid HC
    have HNN := Lib.hid hnn
    clear hs hk hv hn hnn
    go_enter Try.func17, Try.ntmps17
    go_wp2_with (first | (go_at_call 12; refine (HC.out _).mono ?_; rintro e w2 ⟨rfl, rfl⟩) | (at_builtin; refine wpList_append_by (v := .slice (some ⟨w.heap.size, 0, none⟩) 0 0) (x := .slice a n c) rfl (.tmp 20) (.tmp 21) rfl rfl rfl HO.out HV.out HLN.out (by simp) ?_; intro v' w2 ho2 hg2 hv2; have HR := Lib.hid (copied ho2 hg2); clear ho2 hg2 hv2))
    have hro := HR.out.1
    rw [HNN.out] at hro
    obtain ⟨G, cap, cur, rfl, hG, -⟩ := own_gone hro (by omega)
    have HG := Lib.hid hG
    have HR0 := Lib.hid (show w2.ownsRow w.heap.size 5 1 (.slice (some ⟨G, 0, none⟩) n cap) n (byC (splice bs z (MM.vB u 0))) ∧ Below w.heap.size w w2 from ⟨by rw [wr_zero]; exact hro, HR.out.2⟩)
    clear hro hG HR cur
    go_loopw [3, 12] (fun y i wr => ∃ k : Nat, k ≤ q ∧ i = .int .i64 k ∧ y = .int .u32 (u / 2 ^ (8 * k) : Nat) ∧ Hid (wr.ownsRow w.heap.size 5 1 (.slice (some ⟨G, 0, none⟩) n cap) n (byC (splice bs z (MM.vB u k))) ∧ Below w.heap.size w wr)) (fun _ i _ => q - (intOf i).toNat)
    case atStart => exact ⟨0, by omega, rfl, by simp, HR0⟩
    case round =>
      clear HR0
      obtain ⟨k, hk, rfl, rfl, hR⟩ := hrel
      by_cases hlt : k < q
      · have hzk : z + k < n := by omega
        have h1 := (hR.out.1.stored (z + k) (.int .u8 (((u / 2 ^ (8 * k) : Nat) : Int) % 256))).1
        rw [wr_step u (by rw [HNN.out]; exact hzk)] at h1
        have HS := Lib.hid (And.intro h1 (show Below w.heap.size w (wr.setCell ⟨G, z + k, none⟩ (.int .u8 (((u / 2 ^ (8 * k) : Nat) : Int) % 256))) from hR.out.2.setCell (show w.heap.size ≤ G from HG.out) _))
        obtain ⟨cc, hcell⟩ : ∃ cc, wr.cell? ⟨G, z + k, none⟩ = some (.int .u8 cc) := by
          have e := hR.out.1.cellAt (z + k) (by omega)
          have hl : (splice bs z (MM.vB u k)).length = n := by rw [length_splice _ _ _ (by have := HNN.out; rw [MM.vB_len]; omega), HNN.out]
          rw [byC_at (by rw [hl]; exact hzk)] at e
          exact ⟨_, e⟩
        have hfr := hR.out.1.frozenAt (z + k)
        have hV : u / 2 ^ (8 * k) < 4294967296 := Nat.lt_of_le_of_lt (Nat.div_le_self _ _) hu
        have HV2 := Lib.hid (show (u / 2 ^ (8 * (k + 1)) : Nat) = u / 2 ^ (8 * k) / 256 by rw [MM.pow256, Nat.div_div_eq_div_mul])
        clear h1 hR
        generalize u / 2 ^ (8 * k) = V at *
        go_wp2
        go_roundw
        case rel => exact ⟨k + 1, by omega, by go_num, by rw [HV2.out]; go_num, HS⟩
        case measure => simp [intOf]; omega
      · have hlt' : decide (k < q) = false := by simpa using hlt
        obtain rfl : k = q := by omega
        clear hlt
        go_wp2
        go_ret2
        refine ⟨_, rfl, ?_, hR.out.2⟩
        rw [HWT.out]
        refine ByR.of_own (N := w.heap.size) ?_
        rw [length_splice _ _ _ (by have := HNN.out; rw [MM.vB_len]; omega), HNN.out]
        exact hR.out.1
  · have HWT := Lib.hid (show MM.wt bs x s u = [] by unfold MM.wt; rw [hnn, if_neg (by omega)])
    rw [hnn, hk]
    simp only [hk] at HC
    replace HC := Lib.hid HC
    clear hk hv
    go_enter Try.func17, Try.ntmps17
    go_wp2_with (first | (go_at_call 12; refine (HC.out _).mono ?_; rintro e w2 ⟨rfl, rfl⟩))
    go_ret2
    exact ⟨_, rfl, .inl ⟨HWT.out, _, _, rfl⟩, Below.refl _ _⟩
end Go.Proofs.Ytdkpigfhdiopmaa
