/-
  What Print answers at every instruction, of the package and of the reference; neither changes memory that was there.
-/
import Derived.Test.YtfgkcjalfhbjjaaDoorWalkC
import Derived.Deep.RegionHeld3
namespace Go.Proofs.YtfgkcjalfhbjjaaDoor
open Go.RowKit S02 S06
/-- What a round of Print keeps: the instruction and its operands lie where they lay. -/
def PW (w wr : World) (g h : Nat) (op d a b m : Int) (l : List Nat) : Prop :=
  At wr g op d a b m ∧ g < wr.heap.size ∧ h < wr.heap.size ∧ (∀ j, j < l.length → wr.cell? ⟨h, j, none⟩ = some (.int .i64 (l.getD j 4 : Nat))) ∧ Below w.heap.size w wr ∧ Tb wr
theorem PW.on {w wr w1 : World} {g h : Nat} {op d a b m : Int} {l : List Nat} (hp : PW w wr g h op d a b m l) (hb : Below wr.heap.size wr w1) : PW w w1 g h op d a b m l := by
  obtain ⟨hA, hg, hh, hc, hB, hT⟩ := hp
  exact ⟨hA.below hg hb, Nat.lt_of_lt_of_le hg hb.size, Nat.lt_of_lt_of_le hh hb.size, fun j hj => (hb.cell hh).trans (hc j hj), hB.trans (hb.mono hB.size), hT.on hb⟩
theorem ov_cell (w : World) (f : Int) (T : TypeId) (j : Nat) (hj : j < (TX.os f).length) : (w.alloc (.cells (ov f).toArray T)).cell? ⟨w.heap.size, j, none⟩ = some (.int .i64 ((TX.os f).getD j 4 : Nat)) := by
  have h : (ov f)[j]? = some (.int .i64 ((TX.os f).getD j 4 : Nat)) := by
    unfold ov
    rw [List.getElem?_map, List.getElem?_eq_getElem hj, List.getD_eq_getElem?_getD, List.getElem?_eq_getElem hj]
    rfl
  simp [go_sem, h]
theorem PW.start {w w1 : World} {op d a b m f : Int} (hb : Below (w.alloc (.cells #[.int .i64 op, .int .i64 d, .int .i64 a, .int .i64 b, .int .i64 m] 27)).heap.size (w.alloc (.cells #[.int .i64 op, .int .i64 d, .int .i64 a, .int .i64 b, .int .i64 m] 27)) w1) (ht : Tb w1) :
    PW w (w1.alloc (.cells (ov f).toArray 46)) w.heap.size w1.heap.size op d a b m (TX.os f) := by
  have hs : w.heap.size < w1.heap.size := Nat.lt_of_lt_of_le (by simp) hb.size
  refine ⟨((At.new w 27 op d a b m).below (by simp) hb).more hs _, by simp; omega, by simp, fun j hj => ov_cell w1 f 46 j hj, (below_new hb).alloc (Nat.le_of_lt hs) _, ht.new _⟩
theorem os_getD_le (f : Int) (k : Nat) (hk : k < (TX.os f).length) : (TX.os f).getD k 4 ≤ 3 := by
  refine TX.os_le f _ ?_
  rw [List.getD_eq_getElem?_getD, List.getElem?_eq_getElem hk]
  exact List.getElem_mem hk
theorem os_len (f : Int) : (TX.os f).length ≤ 3 := by
  rcases TX.os_shape f with e | ⟨o, e⟩ | ⟨o, p, e⟩ | ⟨o, p, q, e⟩ <;> rw [e] <;> simp
theorem ba_size (l : List UInt8) : (⟨l.toArray⟩ : ByteArray).size = l.length := by
  show l.toArray.size = _
  simp
theorem pr_step {op d a b m f : Int} {k : Nat} {S G Y : ByteArray} (hS : S.data.toList = TX.nm op ++ TX.jn d a b m (TX.os f) k) (hG : G.data.toList = if k = 0 then [32] else [44, 32]) (hY : (⟨(TX.wr d a b m ((TX.os f).getD k 4)).toArray⟩ : ByteArray) = Y) :
    (S ++ (G ++ Y)).data.toList = TX.nm op ++ TX.jn d a b m (TX.os f) (k + 1) := by
  rw [NM.data_app, NM.data_app, hS, hG, ← hY, TX.jn]
  simp [List.append_assoc]
set_option maxHeartbeats 800000 in
theorem print_bad (op d a b m : Int) (w : World) (h : ¬ IM.rc op d a b m = 0) :
    Calls Tryd.prog 13 #[.agg #[.int .i64 op, .int .i64 d, .int .i64 a, .int .i64 b, .int .i64 m]] w fun e w' => e = .returned (.string ⟨#[]⟩) ∧ Below w.heap.size w w' := by
  have H1 := Lib.hid (fun W => right_any op d a b m W)
  generalize IM.rc op d a b m = r at *
  have h' : (r == 0) = false := by simpa using h
  go_enter Tryd.func13, Tryd.ntmps13
  go_wp2_with (go_at_call 21; refine (H1.out _).mono ?_; rintro e w1 ⟨rfl, hb⟩)
  go_ret
  exact ⟨rfl, below_new hb⟩
set_option maxHeartbeats 1600000 in
theorem print_none (op d a b m : Int) (w : World) (h : IM.rc op d a b m = 0) (hf : IM.fm op = 10) (ht : Tb w) :
    Calls Tryd.prog 13 #[.agg #[.int .i64 op, .int .i64 d, .int .i64 a, .int .i64 b, .int .i64 m]] w fun e w' => e = .returned (.string ⟨(TX.nm op).toArray⟩) ∧ Below w.heap.size w w' := by
  have H1 := Lib.hid (fun W => right_any op d a b m W)
  have H2 := Lib.hid (fun W => form_any op W)
  rw [h] at H1
  rw [hf] at H2
  have HT := Lib.hid (ht.new (.cells #[.int .i64 op, .int .i64 d, .int .i64 a, .int .i64 b, .int .i64 m] 27))
  clear h hf ht
  go_enter Tryd.func13, Tryd.ntmps13
  go_wp2_with fail
  refine (H1.out _).mono ?_; rintro e w1 ⟨rfl, hb⟩
  have A1 := Lib.hid ((At.new w 27 op d a b m).below (by simp) hb)
  have B1 := Lib.hid (below_new hb)
  have T1 := Lib.hid (HT.out.on hb)
  clear hb HT
  obtain ⟨⟨c0, c1, c2, c3, c4⟩, f0, f1, f2, f3, f4⟩ := A1.out
  clear A1
  go_wp2_with (first
    | (go_at_call 9; refine (name_any _ _ T1.out).mono ?_; rintro e w2 ⟨rfl, rfl⟩)
    | (go_at_call 23; refine (H2.out _).mono ?_; rintro e w2 ⟨rfl, rfl⟩)
    | (go_at_call 22; refine (operands_none _).mono ?_; rintro e w2 ⟨rfl, rfl⟩))
  refine wp_loop_rounds 1 ?_
  rw [rounds_succ]
  go_wp2
  go_ret
  exact ⟨rfl, B1.out⟩
set_option maxHeartbeats 1600000 in
theorem print_some (op d a b m f : Int) (w : World) (h : IM.rc op d a b m = 0) (hf : IM.fm op = f) (hf1 : 1 ≤ f ∧ f ≤ 11) (hf2 : ¬ f = 10) (ht : Tb w) :
    Calls Tryd.prog 13 #[.agg #[.int .i64 op, .int .i64 d, .int .i64 a, .int .i64 b, .int .i64 m]] w fun e w' => e = .returned (.string ⟨(TX.nm op ++ TX.jn d a b m (TX.os f) (TX.os f).length).toArray⟩) ∧ Below w.heap.size w w' := by
  have H1 := Lib.hid (fun W => right_any op d a b m W)
  have H2 := Lib.hid (fun W => form_any op W)
  have HV := Lib.hid (TX.rc_parts h).2.2.2.2
  have HO := Lib.hid (IM.rc_ok h)
  rw [h] at H1
  rw [hf] at H2
  have HT := Lib.hid (ht.new (.cells #[.int .i64 op, .int .i64 d, .int .i64 a, .int .i64 b, .int .i64 m] 27))
  have hn := os_len f
  clear h hf ht
  go_enter Tryd.func13, Tryd.ntmps13
  go_wp2_with fail
  refine (H1.out _).mono ?_; rintro e w1 ⟨rfl, hb⟩
  have A1 := Lib.hid ((At.new w 27 op d a b m).below (by simp) hb)
  have T1 := Lib.hid (HT.out.on hb)
  have P1 := Lib.hid (PW.start (f := f) hb T1.out)
  clear hb HT
  obtain ⟨⟨c0, c1, c2, c3, c4⟩, f0, f1, f2, f3, f4⟩ := A1.out
  clear A1
  go_wp2_with (first
    | (go_at_call 9; refine (name_any _ _ T1.out).mono ?_; rintro e w2 ⟨rfl, rfl⟩)
    | (go_at_call 23; refine (H2.out _).mono ?_; rintro e w2 ⟨rfl, rfl⟩)
    | (go_at_call 22; refine (operands_some f _ hf1 hf2).mono ?_; rintro e w2 ⟨rfl, rfl⟩))
  clear c0 c1 c2 c3 c4 f0 f1 f2 f3 f4
  obtain ⟨n, hN⟩ : ∃ n, (TX.os f).length = n := ⟨_, rfl⟩
  have HN := Lib.hid hN
  rw [hN] at hn ⊢
  clear hN
  generalize w1.heap.size = g at *
  go_loopw [3, 4, 18] (fun s q i wr => ∃ (k : Nat) (S G : ByteArray), k ≤ n ∧ S.size ≤ 5 + 24 * k ∧ G.size ≤ 2 ∧ s = .string S ∧ q = .string G ∧ i = .int .i64 k ∧ Hid (S.data.toList = TX.nm op ++ TX.jn d a b m (TX.os f) k) ∧ Hid (G.data.toList = if k = 0 then [32] else [44, 32]) ∧ Hid (PW w wr w.heap.size g op d a b m (TX.os f))) (fun _ _ i _ => n - (intOf i).toNat)
  case atStart =>
    exact ⟨0, _, _, by omega, by rw [ba_size]; have := TX.nm_len op; omega, by decide, rfl, rfl, rfl, Lib.hid (by simp [TX.jn]), Lib.hid rfl, P1⟩
  case round =>
    obtain ⟨k, S, G, hk, hS, hG, rfl, rfl, rfl, hSl, hGl, hP⟩ := hrel
    by_cases hlt : (k : Int) < n
    · have ho := os_getD_le f k (by rw [HN.out]; omega)
      have hx := hP.out.2.2.2.1 k (by rw [HN.out]; omega)
      obtain ⟨Y, hY⟩ : ∃ Y, (⟨(TX.wr d a b m ((TX.os f).getD k 4)).toArray⟩ : ByteArray) = Y := ⟨_, rfl⟩
      have HY := Lib.hid hY
      have hYs : Y.size ≤ 22 := by
        rw [← hY, ba_size]
        exact TX.wr_len HO.out.2.1 HO.out.2.2.1 HO.out.2.2.2.1 HV.out _
      have HS' := Lib.hid (pr_step hSl.out hGl.out hY)
      clear hY
      generalize (TX.os f).getD k 4 = o at *
      have l1 : ¬ 9223372036854775807 < G.size + Y.size := by omega
      have l2 : ¬ 9223372036854775807 < S.size + (G.size + Y.size) := by omega
      obtain ⟨⟨c0, c1, c2, c3, c4⟩, f0, f1, f2, f3, f4⟩ := hP.out.1
      go_wp2_with (go_at_call 24; refine (written_any op d a b m o _ ho HO.out.2.1 HO.out.2.2.1 HO.out.2.2.2.1 HV.out hP.out.2.2.2.2.2).mono ?_; rw [HY.out]; rintro e w2 ⟨rfl, hb⟩)
      have P2 := Lib.hid (hP.out.on hb)
      go_roundw
      case rel =>
        exact ⟨k + 1, _, _, by omega, by simp; omega, by decide, rfl, rfl, by go_num, HS', Lib.hid (by rw [if_neg (by omega)]), P2⟩
      case measure => simp [intOf]; omega
    · obtain rfl : k = n := by omega
      go_wp2
      go_ret
      exact ⟨ret_str (by rw [hSl.out, HN.out]), hP.out.2.2.2.2.1⟩
theorem print_any (op d a b m : Int) (w : World) (ht : Tb w) :
    Calls Tryd.prog 13 #[.agg #[.int .i64 op, .int .i64 d, .int .i64 a, .int .i64 b, .int .i64 m]] w fun e w' => e = .returned (.string ⟨(TX.pr op d a b m).toArray⟩) ∧ Below w.heap.size w w' := by
  by_cases h : IM.rc op d a b m = 0
  · by_cases hf : IM.fm op = 10
    · have e : TX.pr op d a b m = TX.nm op := by
        unfold TX.pr
        rw [if_pos h, hf]
        simp [TX.os, TX.jn]
      rw [e]
      exact print_none op d a b m w h hf ht
    · have e : TX.pr op d a b m = TX.nm op ++ TX.jn d a b m (TX.os (IM.fm op)) (TX.os (IM.fm op)).length := by
        unfold TX.pr
        rw [if_pos h]
      rw [e]
      exact print_some op d a b m _ w h rfl (TX.fm_rng h) hf ht
  · rw [TX.pr_no h]
    exact print_bad op d a b m w h
end Go.Proofs.YtfgkcjalfhbjjaaDoor
