/-
  What the reference's small functions answer: what stands ahead of the first blank, the places behind blanks, the number at a place.
-/
import Derived.Test.YtfgkcjalfhbjjaaDoorWalkB
import Derived.Maps.AppendAt
import Derived.Laws.OwnMore
import Derived.OwnWalk
namespace Go.Proofs.YtfgkcjalfhbjjaaDoor
open Go.RowKit S02 S06
theorem u8_eq {c d : UInt8} (h : (c.toNat : Int) = d.toNat) : c = d := UInt8.toNat_inj.1 (by omega)
set_option maxHeartbeats 800000 in
theorem head_any (s : ByteArray) (w : World) (hs : s.size ≤ 200) : Calls Tryd.prog 34 #[.string s] w fun e w' => e = .returned (.string ⟨(TX.hd s.data.toList).toArray⟩) ∧ w = w' := by
  have hlen := Lib.hid (NM.len_eq s)
  go_enter Tryd.func34, Tryd.ntmps34
  go_wp2
  go_loopw [3] (fun i wr => ∃ k : Nat, k ≤ s.size ∧ i = .int .i64 k ∧ Hid (∀ j, j < k → s.data.toList.getD j 0 ≠ 32) ∧ w = wr) (fun i _ => s.size - (intOf i).toNat)
  case atStart => exact ⟨0, by omega, rfl, Lib.hid (fun j h => by omega), rfl⟩
  case round =>
    obtain ⟨k, hk, rfl, hn, rfl⟩ := hrel
    by_cases hlt : (k : Int) < s.size
    · have hk1 : k < s.size := by omega
      have hc := Lib.hid (NM.getD_eq s k hk1)
      by_cases he : (s[k].toNat : Int) = 32
      · have HE := Lib.hid (TX.hd_hit s.data.toList k (by rw [hlen.out]; exact hk1) hn.out (by rw [hc.out]; exact u8_eq he))
        go_wp2
        go_ret
        exact ⟨ret_str (by rw [HE.out, Lib.extract_data]; simp), rfl⟩
      · have HE := Lib.hid (show ∀ j, j < k + 1 → s.data.toList.getD j 0 ≠ 32 from fun j hj => by
          rcases Nat.lt_or_ge j k with h | h
          · exact hn.out j h
          · rw [show j = k by omega, hc.out]; exact fun e => he (by rw [e]; rfl))
        go_wp2
        go_roundw
        case rel => exact ⟨k + 1, by omega, by go_num, HE, trivial⟩
        case measure => simp [intOf]; omega
    · obtain rfl : k = s.size := by omega
      have HE := Lib.hid (TX.hd_miss s.data.toList (by rw [hlen.out]; exact hn.out))
      go_wp2
      go_ret
      exact ⟨ret_str (by rw [HE.out]), rfl⟩
theorem int_info : (Tryd.prog.info? 3).map (fun i => (i.zero, i.size, i.bytes)) = some (some (.int .i64 0), 1, 8) := by kernel_rfl
def iv (p : Nat) : Value := .int .i64 (p : Int)
/-- A row of numbers that the call owns; nothing below is changed. -/
def IRow (w wr : World) (v : Value) (acc : List Nat) : Prop := wr.ownsRow w.heap.size 3 1 v acc.length (acc.map iv) ∧ Below w.heap.size w wr
theorem IRow.start (w : World) : IRow w w (.slice none 0 0) [] := ⟨⟨rfl, .inl ⟨rfl, rfl⟩⟩, Below.refl _ w⟩
theorem IRow.app {w wn w1 : World} {v v' x : Value} {acc : List Nat} {y : Nat} {o : Obj} (h : IRow w wn v acc) (hx : x = iv y)
    (hown : w1.ownsRow w.heap.size 3 1 v' (acc.length + 1) (acc.map iv ++ [x])) (hg : (wn.alloc o).grownBy w1 v.ownBlock) : IRow w w1 v' (acc ++ [y]) := by
  subst hx
  refine ⟨by rw [List.length_append, List.map_append]; exact hown, ?_⟩
  refine (h.2.alloc h.2.size o).grown hg (by have := h.2.size; simp; omega) fun k hk => ?_
  rcases h.1.2 with ⟨rfl, _⟩ | ⟨g, cap, cur, rfl, hb, _⟩
  · simp [Value.ownBlock] at hk
  · simp only [Value.ownBlock, Option.some.injEq] at hk
    omega
theorem new_cell (w : World) (x : Value) (t : TypeId) : ∀ j u, [x][j]? = some u → (w.alloc (.cells #[x] t)).cell? ((⟨w.heap.size, 0, none⟩ : Addr).add j) = some u := by
  intro j u hj
  match j, hj with
  | 0, hj => simp at hj; subst hj; simp [Addr.add]
theorem one_int (n : Int) : ∀ u ∈ [Value.int .i64 n], u.oneCell' = true := by
  intro u hu; simp at hu; subst hu; rfl
set_option maxHeartbeats 1600000 in
theorem starts_any (s : ByteArray) (w : World) (hs : s.size ≤ 200) : Calls Tryd.prog 35 #[.string s] w fun e w' => ∃ v, e = .returned v ∧ IRow w w' v (TX.bq 0 s.data.toList) := by
  obtain ⟨i0, HI⟩ := info_parts int_info
  have HI := Lib.hid HI
  have hlen := Lib.hid (NM.len_eq s)
  go_enter Tryd.func35, Tryd.ntmps35
  go_wp2
  go_loopw [3, 4] (fun v i wr => ∃ (k : Nat) (acc : List Nat), k ≤ s.size ∧ acc.length ≤ k ∧ i = .int .i64 k ∧ Hid (acc ++ TX.bq k (s.data.toList.drop k) = TX.bq 0 s.data.toList) ∧ Hid (IRow w wr v acc)) (fun _ i _ => s.size - (intOf i).toNat)
  case atStart => exact ⟨0, [], by omega, by simp, rfl, Lib.hid rfl, Lib.hid (IRow.start w)⟩
  case round =>
    obtain ⟨k, acc, hk, hacc, rfl, hq, hrow⟩ := hrel
    by_cases hlt : (k : Int) < s.size
    · have hk1 : k < s.size := by omega
      have hc := Lib.hid (NM.getD_eq s k hk1)
      have hst := Lib.hid (TX.bq_step s.data.toList k (by rw [hlen.out]; exact hk1))
      by_cases he : (s[k].toNat : Int) = 32
      · have HE := Lib.hid (show acc ++ [k + 1] ++ TX.bq (k + 1) (s.data.toList.drop (k + 1)) = TX.bq 0 s.data.toList by
          rw [← hq.out, hst.out, if_pos (by rw [hc.out]; exact u8_eq he), List.append_assoc])
        go_wp2_with (at_builtin; refine wpList_append_own _ rfl _ _ 54 rfl w.heap.size 3 i0 (.int .i64 0) 1 8 Tryd.underlying54 HI.out.1 HI.out.2.1 HI.out.2.2.1 HI.out.2.2.2 rfl (by decide) _ _ _ rfl (hrow.out.1.alloc _) ⟨_, 0, none⟩ 1 1 [.int .i64 ((k : Int) + 1)] rfl rfl (new_cell _ _ _) (one_int _) (by unfold maxLen; omega) (by omega) (by have := hrow.out.2.size; simp; omega) ?_)
        intro v' w1 hown hgrow _
        have HR := Lib.hid (hrow.out.app (show Value.int .i64 ((k : Int) + 1) = iv (k + 1) from rfl) hown hgrow)
        clear hown hgrow
        go_wp2
        go_roundw
        case rel => exact ⟨k + 1, acc ++ [k + 1], by omega, by rw [List.length_append, List.length_singleton]; omega, by go_num, HE, HR⟩
        case measure => simp [intOf]; omega
      · have HE := Lib.hid (show acc ++ TX.bq (k + 1) (s.data.toList.drop (k + 1)) = TX.bq 0 s.data.toList by
          rw [← hq.out, hst.out, if_neg (by rw [hc.out]; exact fun e => he (by rw [e]; rfl)), List.nil_append])
        go_wp2
        go_roundw
        case rel => exact ⟨k + 1, acc, by omega, by omega, by go_num, HE, hrow⟩
        case measure => simp [intOf]; omega
    · obtain rfl : k = s.size := by omega
      have HE := Lib.hid (show acc = TX.bq 0 s.data.toList by
        rw [← hq.out, List.drop_eq_nil_of_le (by rw [hlen.out]; omega)]
        simp [TX.bq])
      go_wp2
      go_ret
      rw [← HE.out]
      exact ⟨_, rfl, hrow.out⟩
theorem irow_open {w wr : World} {v : Value} {l : List Nat} (h : IRow w wr v l) :
    (l.length = 0 ∧ ∃ ao cap, v = .slice ao 0 cap) ∨ (∃ g cap, v = .slice (some ⟨g, 0, none⟩) l.length cap ∧ w.heap.size ≤ g ∧ g < wr.heap.size ∧ ∀ i, i < l.length → wr.cell? ⟨g, i, none⟩ = some (.int .i64 (l.getD i 0 : Nat))) := by
  have h1 := h.1
  rcases h1.2 with ⟨h0, h2⟩ | ⟨g, cap, cur, h0, hb, hg, _⟩
  · exact .inl ⟨h2, _, _, h0⟩
  · by_cases hz : l.length = 0
    · exact .inl ⟨hz, _, _, by rw [h0, hz]⟩
    · subst h0
      have hc : ∀ i, i < l.length → wr.cell? ⟨g, i, none⟩ = some (.int .i64 (l.getD i 0 : Nat)) := fun i hi => by
        rw [h1.cellAt i (by omega)]
        simp [hi, iv]
      exact .inr ⟨g, cap, rfl, hb, lt_of_cell (hc 0 (by omega)), hc⟩
set_option maxHeartbeats 1600000 in
theorem rnumber_minus (s : ByteArray) (p : Nat) (w : World) (hs : s.size ≤ 200) (hpp : p ≤ 300) (hp : p < s.size) (h45 : (s[p].toNat : Int) = 45) :
    Calls Tryd.prog 36 #[.string s, .int .i64 p] w fun e w' => e = .returned (.int .i64 (TX.rn s.data.toList p)) ∧ w = w' := by
  obtain ⟨D, hD⟩ : ∃ D, TX.dn 9 (s.data.toList.drop (p + 1)) 0 = D := ⟨_, rfl⟩
  have HR : Hid (TX.rn s.data.toList p = -(D : Int)) := Lib.hid (by rw [TX.rn_minus _ p (by rw [NM.len_eq]; exact hp) (by rw [NM.getD_eq s p hp]; exact u8_eq h45), hD])
  have HD := Lib.hid hD
  have hlen := Lib.hid (NM.len_eq s)
  clear hD
  have hp' : (p : Int) < s.size := by omega
  go_enter Tryd.func36, Tryd.ntmps36
  go_wp2
  go_loopw [1, 6, 7] (fun a n i wr => ∃ k q v : Nat, k ≤ 9 ∧ q ≤ p + 1 + k ∧ (v : Int) < 1000000000 ∧ a = .int .i64 q ∧ n = .int .i64 v ∧ i = .int .i64 k ∧ Hid (v < 10 ^ k) ∧ Hid (TX.dn (9 - k) (s.data.toList.drop q) v = D) ∧ w = wr) (fun _ _ i _ => 9 - (intOf i).toNat)
  case atStart => exact ⟨0, p + 1, 0, by omega, by omega, by omega, by first | rfl | go_num, rfl, rfl, Lib.hid (by decide), HD, rfl⟩
  case round =>
    obtain ⟨k, q, v, hk, hq, hv9, rfl, rfl, rfl, hv, hdn, rfl⟩ := hrel
    by_cases hk9 : (k : Int) < 9
    · have hk9' : decide ((k : Int) < 9) = true := by simpa using hk9
      have hv8 : (v : Int) < 100000000 := by
        have := Nat.lt_of_lt_of_le hv.out (Nat.pow_le_pow_right (by omega) (show k ≤ 8 by omega))
        rw [show (10 : Nat) ^ 8 = 100000000 by decide] at this
        omega
      by_cases hqs : (q : Int) < s.size
      · have hqs' : decide ((q : Int) < s.size) = true := by simpa using hqs
        have hq1 : q < s.size := by omega
        have hc := Lib.hid (NM.getD_eq s q hq1)
        have hcl : (s[q].toNat : Int) < 256 := by have := s[q].toNat_lt; omega
        by_cases h48 : (48 : Int) ≤ s[q].toNat
        · have h48' : decide ((48 : Int) ≤ s[q].toNat) = true := by simpa using h48
          by_cases h57 : (s[q].toNat : Int) ≤ 57
          · have h57' : decide ((s[q].toNat : Int) ≤ 57) = true := by simpa using h57
            have HN := Lib.hid (show TX.dn (9 - (k + 1)) (s.data.toList.drop (q + 1)) (10 * v + (s[q].toNat - 48)) = D by
              have := TX.dn_step s.data.toList q (9 - (k + 1)) v (by rw [hlen.out]; exact hq1) (by rw [hc.out]; omega)
              rw [show 9 - (k + 1) + 1 = 9 - k by omega, hdn.out, hc.out] at this
              exact this.symm)
            have HV := Lib.hid (show 10 * v + (s[q].toNat - 48) < 10 ^ (k + 1) by have := hv.out; rw [Nat.pow_succ]; omega)
            go_wp2
            go_roundw
            case rel => exact ⟨k + 1, q + 1, 10 * v + (s[q].toNat - 48), by omega, by omega, by omega, by go_num, congrArg (Value.int .i64) (by omega), by go_num, HV, HN, trivial⟩
            case measure => simp [intOf]; omega
          · have h57' : decide ((s[q].toNat : Int) ≤ 57) = false := by simpa using h57
            have HV := Lib.hid (show v = D by
              have := TX.dn_stop s.data.toList q (9 - (k + 1)) v (by rw [hlen.out]; exact hq1) (by rw [hc.out]; omega)
              rw [show 9 - (k + 1) + 1 = 9 - k by omega, hdn.out] at this
              exact this.symm)
            go_wp2
            go_ret
            exact ⟨ret_int (by rw [HR.out, HV.out]), rfl⟩
        · have h48' : decide ((48 : Int) ≤ s[q].toNat) = false := by simpa using h48
          have HV := Lib.hid (show v = D by
            have := TX.dn_stop s.data.toList q (9 - (k + 1)) v (by rw [hlen.out]; exact hq1) (by rw [hc.out]; omega)
            rw [show 9 - (k + 1) + 1 = 9 - k by omega, hdn.out] at this
            exact this.symm)
          go_wp2
          go_ret
          exact ⟨ret_int (by rw [HR.out, HV.out]), rfl⟩
      · have hqs' : decide ((q : Int) < s.size) = false := by simpa using hqs
        have HV := Lib.hid (show v = D by
          have := TX.dn_end s.data.toList q (9 - k) v (by rw [hlen.out]; omega)
          rw [hdn.out] at this
          exact this.symm)
        go_wp2
        go_ret
        exact ⟨ret_int (by rw [HR.out, HV.out]), rfl⟩
    · have hk9' : decide ((k : Int) < 9) = false := by simpa using hk9
      have HV := Lib.hid (show v = D by
        have := hdn.out
        rw [show 9 - k = 0 by omega, TX.dn] at this
        exact this)
      go_wp2
      go_ret
      exact ⟨ret_int (by rw [HR.out, HV.out]), rfl⟩
set_option maxHeartbeats 1600000 in
theorem rnumber_plus (s : ByteArray) (p : Nat) (w : World) (hs : s.size ≤ 200) (hpp : p ≤ 300) (h45 : ¬ (p < s.size ∧ s.data.toList.getD p 0 = 45)) :
    Calls Tryd.prog 36 #[.string s, .int .i64 p] w fun e w' => e = .returned (.int .i64 (TX.rn s.data.toList p)) ∧ w = w' := by
  obtain ⟨D, hD⟩ : ∃ D, TX.dn 9 (s.data.toList.drop (p)) 0 = D := ⟨_, rfl⟩
  have HR : Hid (TX.rn s.data.toList p = (D : Int)) := Lib.hid (by rw [TX.rn_plus _ p (by rw [NM.len_eq]; exact h45), hD])
  have HD := Lib.hid hD
  have hlen := Lib.hid (NM.len_eq s)
  clear hD
  have h45' : ∀ h : p < s.size, ¬ (s[p].toNat : Int) = 45 := fun h e => h45 ⟨h, by rw [NM.getD_eq s p h]; exact u8_eq e⟩
  clear h45
  by_cases hp : p < s.size
  · have hp' : (p : Int) < s.size := by omega
    have hp2 : decide ((p : Int) < s.size) = true := by simpa using hp'
    have h45 := h45' hp
    have h45b : ((s[p].toNat : Int) == 45) = false := by simp only [beq_eq_false_iff_ne]; exact h45
    clear h45'
    go_enter Tryd.func36, Tryd.ntmps36
    go_wp2
    go_loopw [1, 6, 7] (fun a n i wr => ∃ k q v : Nat, k ≤ 9 ∧ q ≤ p + k ∧ (v : Int) < 1000000000 ∧ a = .int .i64 q ∧ n = .int .i64 v ∧ i = .int .i64 k ∧ Hid (v < 10 ^ k) ∧ Hid (TX.dn (9 - k) (s.data.toList.drop q) v = D) ∧ w = wr) (fun _ _ i _ => 9 - (intOf i).toNat)
    case atStart => exact ⟨0, p, 0, by omega, by omega, by omega, by first | rfl | go_num, rfl, rfl, Lib.hid (by decide), HD, rfl⟩
    case round =>
      obtain ⟨k, q, v, hk, hq, hv9, rfl, rfl, rfl, hv, hdn, rfl⟩ := hrel
      by_cases hk9 : (k : Int) < 9
      · have hk9' : decide ((k : Int) < 9) = true := by simpa using hk9
        have hv8 : (v : Int) < 100000000 := by
          have := Nat.lt_of_lt_of_le hv.out (Nat.pow_le_pow_right (by omega) (show k ≤ 8 by omega))
          rw [show (10 : Nat) ^ 8 = 100000000 by decide] at this
          omega
        by_cases hqs : (q : Int) < s.size
        · have hqs' : decide ((q : Int) < s.size) = true := by simpa using hqs
          have hq1 : q < s.size := by omega
          have hc := Lib.hid (NM.getD_eq s q hq1)
          have hcl : (s[q].toNat : Int) < 256 := by have := s[q].toNat_lt; omega
          by_cases h48 : (48 : Int) ≤ s[q].toNat
          · have h48' : decide ((48 : Int) ≤ s[q].toNat) = true := by simpa using h48
            by_cases h57 : (s[q].toNat : Int) ≤ 57
            · have h57' : decide ((s[q].toNat : Int) ≤ 57) = true := by simpa using h57
              have HN := Lib.hid (show TX.dn (9 - (k + 1)) (s.data.toList.drop (q + 1)) (10 * v + (s[q].toNat - 48)) = D by
                have := TX.dn_step s.data.toList q (9 - (k + 1)) v (by rw [hlen.out]; exact hq1) (by rw [hc.out]; omega)
                rw [show 9 - (k + 1) + 1 = 9 - k by omega, hdn.out, hc.out] at this
                exact this.symm)
              have HV := Lib.hid (show 10 * v + (s[q].toNat - 48) < 10 ^ (k + 1) by have := hv.out; rw [Nat.pow_succ]; omega)
              go_wp2
              go_roundw
              case rel => exact ⟨k + 1, q + 1, 10 * v + (s[q].toNat - 48), by omega, by omega, by omega, by go_num, congrArg (Value.int .i64) (by omega), by go_num, HV, HN, trivial⟩
              case measure => simp [intOf]; omega
            · have h57' : decide ((s[q].toNat : Int) ≤ 57) = false := by simpa using h57
              have HV := Lib.hid (show v = D by
                have := TX.dn_stop s.data.toList q (9 - (k + 1)) v (by rw [hlen.out]; exact hq1) (by rw [hc.out]; omega)
                rw [show 9 - (k + 1) + 1 = 9 - k by omega, hdn.out] at this
                exact this.symm)
              go_wp2
              go_ret
              exact ⟨ret_int (by rw [HR.out, HV.out]), rfl⟩
          · have h48' : decide ((48 : Int) ≤ s[q].toNat) = false := by simpa using h48
            have HV := Lib.hid (show v = D by
              have := TX.dn_stop s.data.toList q (9 - (k + 1)) v (by rw [hlen.out]; exact hq1) (by rw [hc.out]; omega)
              rw [show 9 - (k + 1) + 1 = 9 - k by omega, hdn.out] at this
              exact this.symm)
            go_wp2
            go_ret
            exact ⟨ret_int (by rw [HR.out, HV.out]), rfl⟩
        · have hqs' : decide ((q : Int) < s.size) = false := by simpa using hqs
          have HV := Lib.hid (show v = D by
            have := TX.dn_end s.data.toList q (9 - k) v (by rw [hlen.out]; omega)
            rw [hdn.out] at this
            exact this.symm)
          go_wp2
          go_ret
          exact ⟨ret_int (by rw [HR.out, HV.out]), rfl⟩
      · have hk9' : decide ((k : Int) < 9) = false := by simpa using hk9
        have HV := Lib.hid (show v = D by
          have := hdn.out
          rw [show 9 - k = 0 by omega, TX.dn] at this
          exact this)
        go_wp2
        go_ret
        exact ⟨ret_int (by rw [HR.out, HV.out]), rfl⟩

  · have hp2 : decide ((p : Int) < s.size) = false := by simp only [decide_eq_false_iff_not]; omega
    clear h45'
    go_enter Tryd.func36, Tryd.ntmps36
    go_wp2
    go_loopw [1, 6, 7] (fun a n i wr => ∃ k q v : Nat, k ≤ 9 ∧ q ≤ p + k ∧ (v : Int) < 1000000000 ∧ a = .int .i64 q ∧ n = .int .i64 v ∧ i = .int .i64 k ∧ Hid (v < 10 ^ k) ∧ Hid (TX.dn (9 - k) (s.data.toList.drop q) v = D) ∧ w = wr) (fun _ _ i _ => 9 - (intOf i).toNat)
    case atStart => exact ⟨0, p, 0, by omega, by omega, by omega, by first | rfl | go_num, rfl, rfl, Lib.hid (by decide), HD, rfl⟩
    case round =>
      obtain ⟨k, q, v, hk, hq, hv9, rfl, rfl, rfl, hv, hdn, rfl⟩ := hrel
      by_cases hk9 : (k : Int) < 9
      · have hk9' : decide ((k : Int) < 9) = true := by simpa using hk9
        have hv8 : (v : Int) < 100000000 := by
          have := Nat.lt_of_lt_of_le hv.out (Nat.pow_le_pow_right (by omega) (show k ≤ 8 by omega))
          rw [show (10 : Nat) ^ 8 = 100000000 by decide] at this
          omega
        by_cases hqs : (q : Int) < s.size
        · have hqs' : decide ((q : Int) < s.size) = true := by simpa using hqs
          have hq1 : q < s.size := by omega
          have hc := Lib.hid (NM.getD_eq s q hq1)
          have hcl : (s[q].toNat : Int) < 256 := by have := s[q].toNat_lt; omega
          by_cases h48 : (48 : Int) ≤ s[q].toNat
          · have h48' : decide ((48 : Int) ≤ s[q].toNat) = true := by simpa using h48
            by_cases h57 : (s[q].toNat : Int) ≤ 57
            · have h57' : decide ((s[q].toNat : Int) ≤ 57) = true := by simpa using h57
              have HN := Lib.hid (show TX.dn (9 - (k + 1)) (s.data.toList.drop (q + 1)) (10 * v + (s[q].toNat - 48)) = D by
                have := TX.dn_step s.data.toList q (9 - (k + 1)) v (by rw [hlen.out]; exact hq1) (by rw [hc.out]; omega)
                rw [show 9 - (k + 1) + 1 = 9 - k by omega, hdn.out, hc.out] at this
                exact this.symm)
              have HV := Lib.hid (show 10 * v + (s[q].toNat - 48) < 10 ^ (k + 1) by have := hv.out; rw [Nat.pow_succ]; omega)
              go_wp2
              go_roundw
              case rel => exact ⟨k + 1, q + 1, 10 * v + (s[q].toNat - 48), by omega, by omega, by omega, by go_num, congrArg (Value.int .i64) (by omega), by go_num, HV, HN, trivial⟩
              case measure => simp [intOf]; omega
            · have h57' : decide ((s[q].toNat : Int) ≤ 57) = false := by simpa using h57
              have HV := Lib.hid (show v = D by
                have := TX.dn_stop s.data.toList q (9 - (k + 1)) v (by rw [hlen.out]; exact hq1) (by rw [hc.out]; omega)
                rw [show 9 - (k + 1) + 1 = 9 - k by omega, hdn.out] at this
                exact this.symm)
              go_wp2
              go_ret
              exact ⟨ret_int (by rw [HR.out, HV.out]), rfl⟩
          · have h48' : decide ((48 : Int) ≤ s[q].toNat) = false := by simpa using h48
            have HV := Lib.hid (show v = D by
              have := TX.dn_stop s.data.toList q (9 - (k + 1)) v (by rw [hlen.out]; exact hq1) (by rw [hc.out]; omega)
              rw [show 9 - (k + 1) + 1 = 9 - k by omega, hdn.out] at this
              exact this.symm)
            go_wp2
            go_ret
            exact ⟨ret_int (by rw [HR.out, HV.out]), rfl⟩
        · have hqs' : decide ((q : Int) < s.size) = false := by simpa using hqs
          have HV := Lib.hid (show v = D by
            have := TX.dn_end s.data.toList q (9 - k) v (by rw [hlen.out]; omega)
            rw [hdn.out] at this
            exact this.symm)
          go_wp2
          go_ret
          exact ⟨ret_int (by rw [HR.out, HV.out]), rfl⟩
      · have hk9' : decide ((k : Int) < 9) = false := by simpa using hk9
        have HV := Lib.hid (show v = D by
          have := hdn.out
          rw [show 9 - k = 0 by omega, TX.dn] at this
          exact this)
        go_wp2
        go_ret
        exact ⟨ret_int (by rw [HR.out, HV.out]), rfl⟩
theorem rnumber_any (s : ByteArray) (p : Nat) (w : World) (hs : s.size ≤ 200) (hpp : p ≤ 300) :
    Calls Tryd.prog 36 #[.string s, .int .i64 p] w fun e w' => e = .returned (.int .i64 (TX.rn s.data.toList p)) ∧ w = w' := by
  by_cases h : p < s.size ∧ s.data.toList.getD p 0 = 45
  · exact rnumber_minus s p w hs hpp h.1 (by rw [← NM.getD_eq s p h.1, h.2]; rfl)
  · exact rnumber_plus s p w hs hpp h
end Go.Proofs.YtfgkcjalfhbjjaaDoor
