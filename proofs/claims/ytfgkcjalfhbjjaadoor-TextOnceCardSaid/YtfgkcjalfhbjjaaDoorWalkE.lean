/-
  What the reference's Print answers at every instruction; it changes no memory that was there.
-/
import Derived.Test.YtfgkcjalfhbjjaaDoorWalkD
namespace Go.Proofs.YtfgkcjalfhbjjaaDoor
open Go.RowKit S02 S06
theorem field_at (op d a b m : Int) (o : Nat) (c : UInt8) (w : World) (hc : c = TX.lt o) (ho : o ≤ 3) (hd : 0 ≤ d ∧ d < 16) (ha : 0 ≤ a ∧ a < 16) (hb : 0 ≤ b ∧ b < 16) (hm : -131072 ≤ m ∧ m < 262144) :
    Calls Tryd.prog 27 #[.agg #[.int .i64 op, .int .i64 d, .int .i64 a, .int .i64 b, .int .i64 m], .int .u8 c.toNat] w fun e w' => e = .returned (.string ⟨(TX.wr d a b m o).toArray⟩) ∧ Below w.heap.size w w' := by
  subst hc
  exact field_any op d a b m o w ho hd ha hb hm
/-- What a round keeps. -/
def QW (w wr : World) (g : Nat) (op d a b m : Int) : Prop := At wr g op d a b m ∧ g < wr.heap.size ∧ Below w.heap.size w wr
theorem QW.on {w wr w1 : World} {g : Nat} {op d a b m : Int} (hp : QW w wr g op d a b m) (hb : Below wr.heap.size wr w1) : QW w w1 g op d a b m := by
  obtain ⟨hA, hg, hB⟩ := hp
  exact ⟨hA.below hg hb, Nat.lt_of_lt_of_le hg hb.size, hB.trans (hb.mono hB.size)⟩
theorem QW.start {w w1 : World} {op d a b m : Int} (hb : Below (w.alloc (.cells #[.int .i64 op, .int .i64 d, .int .i64 a, .int .i64 b, .int .i64 m] 27)).heap.size (w.alloc (.cells #[.int .i64 op, .int .i64 d, .int .i64 a, .int .i64 b, .int .i64 m] 27)) w1) : QW w w1 w.heap.size op d a b m :=
  ⟨(At.new w 27 op d a b m).below (by simp) hb, Nat.lt_of_lt_of_le (by simp) hb.size, below_new hb⟩
def QS (w wr : World) (g : Nat) (op d a b m : Int) : Prop := wr.cell? ⟨g, 0, none⟩ = some (.int .i64 op) ∧ wr.cell? ⟨g, 1, none⟩ = some (.int .i64 d) ∧ wr.cell? ⟨g, 2, none⟩ = some (.int .i64 a) ∧ wr.cell? ⟨g, 3, none⟩ = some (.int .i64 b) ∧ wr.cell? ⟨g, 4, none⟩ = some (.int .i64 m) ∧ Hid (QW w wr g op d a b m)
theorem QS.of {w wr : World} {g : Nat} {op d a b m : Int} (h : QW w wr g op d a b m) : wr.cell? ⟨g, 0, none⟩ = some (.int .i64 op) ∧ wr.cell? ⟨g, 1, none⟩ = some (.int .i64 d) ∧ wr.cell? ⟨g, 2, none⟩ = some (.int .i64 a) ∧ wr.cell? ⟨g, 3, none⟩ = some (.int .i64 b) ∧ wr.cell? ⟨g, 4, none⟩ = some (.int .i64 m) ∧ Hid (QW w wr g op d a b m) :=
  ⟨h.1.1.1, h.1.1.2.1, h.1.1.2.2.1, h.1.1.2.2.2.1, h.1.1.2.2.2.2, Lib.hid h⟩
theorem QS.drew {w wr : World} {g : Nat} {op d a b m : Int} (h : QW w wr g op d a b m) : wr.drew.cell? ⟨g, 0, none⟩ = some (.int .i64 op) ∧ wr.drew.cell? ⟨g, 1, none⟩ = some (.int .i64 d) ∧ wr.drew.cell? ⟨g, 2, none⟩ = some (.int .i64 a) ∧ wr.drew.cell? ⟨g, 3, none⟩ = some (.int .i64 b) ∧ wr.drew.cell? ⟨g, 4, none⟩ = some (.int .i64 m) ∧ Hid (QW w wr.drew g op d a b m) :=
  QS.of (h.on (Below.refl _ _).drew)
theorem QS.call {w wr w1 : World} {g : Nat} {op d a b m : Int} (h : wr.cell? ⟨g, 0, none⟩ = some (.int .i64 op) ∧ wr.cell? ⟨g, 1, none⟩ = some (.int .i64 d) ∧ wr.cell? ⟨g, 2, none⟩ = some (.int .i64 a) ∧ wr.cell? ⟨g, 3, none⟩ = some (.int .i64 b) ∧ wr.cell? ⟨g, 4, none⟩ = some (.int .i64 m) ∧ Hid (QW w wr g op d a b m)) (hb : Below wr.heap.size wr w1) : w1.cell? ⟨g, 0, none⟩ = some (.int .i64 op) ∧ w1.cell? ⟨g, 1, none⟩ = some (.int .i64 d) ∧ w1.cell? ⟨g, 2, none⟩ = some (.int .i64 a) ∧ w1.cell? ⟨g, 3, none⟩ = some (.int .i64 b) ∧ w1.cell? ⟨g, 4, none⟩ = some (.int .i64 m) ∧ Hid (QW w w1 g op d a b m) :=
  QS.of (h.2.2.2.2.2.out.on hb)
theorem QS.end {w wr : World} {g : Nat} {op d a b m : Int} (h : wr.cell? ⟨g, 0, none⟩ = some (.int .i64 op) ∧ wr.cell? ⟨g, 1, none⟩ = some (.int .i64 d) ∧ wr.cell? ⟨g, 2, none⟩ = some (.int .i64 a) ∧ wr.cell? ⟨g, 3, none⟩ = some (.int .i64 b) ∧ wr.cell? ⟨g, 4, none⟩ = some (.int .i64 m) ∧ Hid (QW w wr g op d a b m)) : QW w wr g op d a b m := h.2.2.2.2.2.out
theorem rpr_step {op d a b m f : Int} {k : Nat} {S G Y : ByteArray} (hS : S.data.toList = TX.nm op ++ TX.jn d a b m (TX.os f) k) (hG : G.data.toList = if k = 0 then [32] else [44, 32]) (hY : (⟨(TX.wr d a b m ((TX.os f).getD k 4)).toArray⟩ : ByteArray) = Y) :
    (S ++ G ++ Y).data.toList = TX.nm op ++ TX.jn d a b m (TX.os f) (k + 1) := by
  rw [NM.data_app, NM.data_app, hS, hG, ← hY, TX.jn]
  simp [List.append_assoc]
theorem lts_size (f : Int) : (⟨((TX.os f).map TX.lt).toArray⟩ : ByteArray).size = (TX.os f).length := by rw [ba_size, List.length_map]
theorem lts_at {f : Int} {F : ByteArray} (hF : (⟨((TX.os f).map TX.lt).toArray⟩ : ByteArray) = F) (k : Nat) (hk : k < F.size) : F[k] = TX.lt ((TX.os f).getD k 4) := by
  have h1 := NM.getD_eq F k hk
  rw [← h1, ← hF]
  have hk' : k < (TX.os f).length := by rw [← hF, lts_size] at hk; exact hk
  simp [List.getD_eq_getElem?_getD, hk']
set_option maxHeartbeats 800000 in
theorem rprint_bad (op d a b m : Int) (w : World) (h : ¬ IM.rc op d a b m = 0) :
    Calls Tryd.prog 14 #[.agg #[.int .i64 op, .int .i64 d, .int .i64 a, .int .i64 b, .int .i64 m]] w fun e w' => e = .returned (.string ⟨#[]⟩) ∧ Below w.heap.size w w' := by
  have H1 := Lib.hid (fun W => rright_any op d a b m W)
  generalize IM.rc op d a b m = r at *
  have h' : (r == 0) = false := by simpa using h
  go_enter Tryd.func14, Tryd.ntmps14
  go_wp2_with (go_at_call 15; refine (H1.out _).mono ?_; rintro e w1 ⟨rfl, hb⟩)
  go_ret
  exact ⟨rfl, below_new hb⟩
set_option maxHeartbeats 1600000 in
theorem rprint_ok (op d a b m f : Int) (w : World) (h : IM.rc op d a b m = 0) (hf : IM.fm op = f) (hf1 : 1 ≤ f ∧ f ≤ 11) :
    Calls Tryd.prog 14 #[.agg #[.int .i64 op, .int .i64 d, .int .i64 a, .int .i64 b, .int .i64 m]] w fun e w' => e = .returned (.string ⟨(TX.nm op ++ TX.jn d a b m (TX.os f) (TX.os f).length).toArray⟩) ∧ Below w.heap.size w w' := by
  have H1 := Lib.hid (fun W => rright_any op d a b m W)
  have H2 := Lib.hid (fun W => rform_any op W)
  have HV := Lib.hid (TX.rc_parts h).2.2.2.2
  have HO := Lib.hid (IM.rc_ok h)
  rw [h] at H1
  rw [hf] at H2
  have hn := os_len f
  clear h hf
  obtain ⟨F, hF⟩ : ∃ F, (⟨((TX.os f).map TX.lt).toArray⟩ : ByteArray) = F := ⟨_, rfl⟩
  have HF := Lib.hid hF
  have hsz : F.size = (TX.os f).length := by rw [← hF, lts_size]
  have HL := Lib.hid (lts_at hF)
  clear hF
  rw [← hsz] at hn ⊢
  have HZ := Lib.hid hsz
  clear hsz
  go_enter Tryd.func14, Tryd.ntmps14
  go_wp2_with fail
  refine (H1.out _).mono ?_; rintro e w1 ⟨rfl, hb⟩
  have Q1 := Lib.hid (QW.start hb)
  clear hb
  obtain ⟨⟨c0, c1, c2, c3, c4⟩, f0, f1, f2, f3, f4⟩ := Q1.out.1
  go_wp2_with fail
  refine (rname_any op _).mono ?_; rintro e w2 ⟨rfl, hb⟩
  have Q2 := Lib.hid (Q1.out.on hb)
  clear hb Q1 c0 c1 c2 c3 c4 f0 f1 f2 f3 f4
  obtain ⟨⟨c0, c1, c2, c3, c4⟩, f0, f1, f2, f3, f4⟩ := Q2.out.1
  go_wp2_with (first
    | (go_at_call 26; refine (H2.out _).mono ?_; rintro e w3 ⟨rfl, rfl⟩)
    | (go_at_call 25; refine (fields_any f _ hf1).mono ?_; rw [HF.out]; rintro e w3 ⟨rfl, rfl⟩))
  clear c0 c1 c2 c3 c4 f0 f1 f2 f3 f4
  go_loopw [3, 5] (fun s i wr => ∃ (k : Nat) (S : ByteArray), k ≤ F.size ∧ S.size ≤ 5 + 24 * k ∧ s = .string S ∧ i = .int .i64 k ∧ Hid (S.data.toList = TX.nm op ++ TX.jn d a b m (TX.os f) k) ∧ Hid (QW w wr w.heap.size op d a b m)) (fun _ i _ => F.size - (intOf i).toNat)
  case atStart =>
    exact ⟨0, _, by omega, by rw [ba_size]; have := TX.nm_len op; omega, rfl, rfl, Lib.hid (by simp [TX.jn]), Q2⟩
  case round =>
    obtain ⟨k, S, hk, hS, rfl, rfl, hSl, hQ⟩ := hrel
    by_cases hlt : (k : Int) < F.size
    · have hk1 : k < F.size := by omega
      have ho := os_getD_le f k (by rw [← HZ.out]; exact hk1)
      have hc := HL.out k hk1
      obtain ⟨Y, hY⟩ : ∃ Y, (⟨(TX.wr d a b m ((TX.os f).getD k 4)).toArray⟩ : ByteArray) = Y := ⟨_, rfl⟩
      have HY := Lib.hid hY
      have hYs : Y.size ≤ 22 := by
        rw [← hY, ba_size]
        exact TX.wr_len HO.out.2.1 HO.out.2.2.1 HO.out.2.2.2.1 HV.out _
      have HST := Lib.hid (fun G hG => rpr_step (G := G) hSl.out hG hY)
      have hC := Lib.hid (fun W => field_at op d a b m _ _ W hc ho HO.out.2.1 HO.out.2.2.1 HO.out.2.2.2.1 HV.out)
      rw [hY] at hC
      clear hY hc ho
      obtain ⟨⟨c0, c1, c2, c3, c4⟩, f0, f1, f2, f3, f4⟩ := hQ.out.1
      by_cases hk0 : k = 0
      · subst hk0
        have HS' := Lib.hid (HST.out ⟨#[32]⟩ rfl)
        have l1 : ¬ 9223372036854775807 < S.size + 1 := by omega
        have l2 : ¬ 9223372036854775807 < S.size + 1 + Y.size := by omega
        go_wp2_with fail
        go_region_held3 (fun w' => w'.cell? ⟨w.heap.size, 0, none⟩ = some (.int .i64 op) ∧ w'.cell? ⟨w.heap.size, 1, none⟩ = some (.int .i64 d) ∧ w'.cell? ⟨w.heap.size, 2, none⟩ = some (.int .i64 a) ∧ w'.cell? ⟨w.heap.size, 3, none⟩ = some (.int .i64 b) ∧ w'.cell? ⟨w.heap.size, 4, none⟩ = some (.int .i64 m) ∧ Hid (QW w w' w.heap.size op d a b m)) (first | exact QS.drew hQ.out | exact QS.call (by assumption) (by assumption))
          (first | (go_at_call 27; refine (hC.out _).mono ?_; rintro e w2 ⟨rfl, hb⟩))
        all_goals
          have HE := Lib.hid (QS.end (w := w) (op := op) (d := d) (a := a) (b := b) (m := m) (by assumption))
          go_wp2
          go_roundw
          case rel => exact ⟨1, _, by omega, by rw [ByteArray.size_append, ByteArray.size_append, show (⟨#[32]⟩ : ByteArray).size = 1 from rfl]; omega, rfl, by go_num, HS', HE⟩
          case measure => simp [intOf]; omega
      · have HS' := Lib.hid (HST.out ⟨#[44, 32]⟩ (by rw [if_neg hk0]))
        have hk0' : ((k : Int) == 0) = false := by simp; omega
        have hk0'' : ¬ (k : Int) = 0 := by omega
        have l1 : ¬ 9223372036854775807 < S.size + 2 := by omega
        have l2 : ¬ 9223372036854775807 < S.size + 2 + Y.size := by omega
        go_wp2_with fail
        go_region_held3 (fun w' => w'.cell? ⟨w.heap.size, 0, none⟩ = some (.int .i64 op) ∧ w'.cell? ⟨w.heap.size, 1, none⟩ = some (.int .i64 d) ∧ w'.cell? ⟨w.heap.size, 2, none⟩ = some (.int .i64 a) ∧ w'.cell? ⟨w.heap.size, 3, none⟩ = some (.int .i64 b) ∧ w'.cell? ⟨w.heap.size, 4, none⟩ = some (.int .i64 m) ∧ Hid (QW w w' w.heap.size op d a b m)) (first | exact QS.drew hQ.out | exact QS.call (by assumption) (by assumption))
          (first | (go_at_call 27; refine (hC.out _).mono ?_; rintro e w2 ⟨rfl, hb⟩))
        all_goals
          have HE := Lib.hid (QS.end (w := w) (op := op) (d := d) (a := a) (b := b) (m := m) (by assumption))
          go_wp2
          go_roundw
          case rel => exact ⟨k + 1, _, by omega, by rw [ByteArray.size_append, ByteArray.size_append, show (⟨#[44, 32]⟩ : ByteArray).size = 2 from rfl]; omega, rfl, by go_num, HS', HE⟩
          case measure => simp [intOf]; omega
    · obtain rfl : k = F.size := by omega
      go_wp2
      go_ret
      exact ⟨ret_str (by rw [hSl.out]), hQ.out.2.2⟩
theorem rprint_any (op d a b m : Int) (w : World) :
    Calls Tryd.prog 14 #[.agg #[.int .i64 op, .int .i64 d, .int .i64 a, .int .i64 b, .int .i64 m]] w fun e w' => e = .returned (.string ⟨(TX.pr op d a b m).toArray⟩) ∧ Below w.heap.size w w' := by
  by_cases h : IM.rc op d a b m = 0
  · have e : TX.pr op d a b m = TX.nm op ++ TX.jn d a b m (TX.os (IM.fm op)) (TX.os (IM.fm op)).length := by
      unfold TX.pr
      rw [if_pos h]
    rw [e]
    exact rprint_ok op d a b m _ w h rfl (TX.fm_rng h)
  · rw [TX.pr_no h]
    exact rprint_bad op d a b m w h
end Go.Proofs.YtfgkcjalfhbjjaaDoor
