/-
  The comparisons of bytes and of whole numbers: what they answer. For slices of a bounded length.
-/
import Derived.Test.YtdkpigfhdiopmaaWalkG
namespace Go.Proofs.Ytdkpigfhdiopmaa
open Go.RowKit Go.Maps S01
theorem take_succ_eq {α : Type} {a b : List α} {k : Nat} (h : a.take k = b.take k) (e : a[k]? = b[k]?) : a.take (k + 1) = b.take (k + 1) := by
  rw [List.take_add_one, List.take_add_one, h, e]
set_option maxHeartbeats 1600000 in
theorem same_on {w : World} {A B : Option Addr} {n ca cb : Nat} {a b : List UInt8} (ha : ByR w (.slice A n ca) a) (hb : ByR w (.slice B n cb) b) (hla : a.length = n) (hlb : b.length = n) (h1 : n ≤ 1000000) :
    Calls Try.prog 18 #[.slice A n ca, .slice B n cb] w fun e w' => e = .returned (.bool (decide (a = b))) ∧ Dr w w' := by
  have HCA := Lib.hid (by_cells ha hla)
  have HCB := Lib.hid (by_cells hb hlb)
  have HLA := Lib.hid hla
  have HLB := Lib.hid hlb
  clear ha hb hla hlb
  go_enter Try.func18, Try.ntmps18
  go_wp2
  go_loopw [5] (fun i wr => ∃ k : Nat, k ≤ n ∧ i = .int .i64 k ∧ Hid (a.take k = b.take k) ∧ Dr w wr) (fun i _ => n - (intOf i).toNat)
  case atStart => exact ⟨0, by omega, rfl, Lib.hid rfl, Dr.refl _⟩
  case round =>
    obtain ⟨k, hk, rfl, hT, hdr⟩ := hrel
    by_cases hlt : k < n
    · obtain ⟨g1, o1, rfl, z1⟩ := HCA.out k hlt
      obtain ⟨g2, o2, rfl, z2⟩ := HCB.out k hlt
      replace z1 := (hdr.cell _).trans z1
      replace z2 := (hdr.cell _).trans z2
      have hiff := at_both (a := a) (b := b) (k := k) (by have := HLA.out; omega) (by have := HLB.out; omega)
      have HD := Lib.hid hdr
      clear hdr
      generalize (a.getD k 0).toNat = X1 at *
      generalize (b.getD k 0).toNat = X2 at *
      by_cases he : (X1 : Int) = X2
      · have HT := Lib.hid (take_succ_eq hT.out (hiff.2 he))
        have he' : ((X1 : Int) == X2) = true := by simpa using he
        have he'' : ((X1 : Int) != X2) = false := by simpa using he
        clear hiff hT
        go_wp2
        go_quiet (fail)
        go_wp2
        go_roundw
        case rel => exact ⟨k + 1, by omega, by go_num, HT, HD.out.more _⟩
        case measure => simp [intOf]; omega
      · have HNE := Lib.hid (show a ≠ b from fun h => he (hiff.1 (by rw [h])))
        have he' : ((X1 : Int) == X2) = false := by simpa using he
        have he'' : ((X1 : Int) != X2) = true := by simpa using he
        clear hiff hT
        go_wp2
        go_quiet (fail)
        go_wp2
        go_ret
        exact ⟨ret_bool (by simp [HNE.out]), HD.out.more _⟩
    · have hlt' : decide (k < n) = false := by simpa using hlt
      obtain rfl : k = n := by omega
      have HE := Lib.hid (show a = b by have h := hT.out; rwa [List.take_of_length_le (by rw [HLA.out]; exact Nat.le_refl _), List.take_of_length_le (by rw [HLB.out]; exact Nat.le_refl _)] at h)
      have HD := Lib.hid hdr
      clear hdr hT hlt
      go_wp2
      go_ret
      exact ⟨ret_bool (by simp [HE.out]), HD.out⟩
theorem same_un {w : World} {A B : Option Addr} {la lb ca cb : Nat} {a b : List UInt8} (hla : a.length = la) (hlb : b.length = lb) (hne : la ≠ lb) :
    Calls Try.prog 18 #[.slice A la ca, .slice B lb cb] w fun e w' => e = .returned (.bool (decide (a = b))) ∧ Dr w w' := by
  have HNE := Lib.hid (show a ≠ b from fun h => hne (by rw [← hla, ← hlb, h]))
  have h1 : ((la : Int) != lb) = true := by simp; omega
  clear hla hlb
  go_enter Try.func18, Try.ntmps18
  go_wp2
  go_ret
  exact ⟨ret_bool (by simp [HNE.out]), Dr.refl _⟩
/-- Bytes compared. -/
theorem same_by {w : World} {x y : Value} {a b : List UInt8} (ha : ByR w x a) (hb : ByR w y b) (h1 : a.length ≤ 1000000) : Calls Try.prog 18 #[x, y] w fun e w' => e = .returned (.bool (decide (a = b))) ∧ Dr w w' := by
  obtain ⟨A, ca, rfl⟩ := by_form ha
  obtain ⟨B, cb, rfl⟩ := by_form hb
  by_cases h : a.length = b.length
  · rw [← h] at hb ⊢
    exact same_on ha hb rfl h.symm h1
  · exact same_un rfl rfl h
theorem inC_get {l : List Nat} {j : Nat} (h : j < l.length) : (inC l)[j]? = some (.int .i64 (l.getD j 0 : Nat)) := by
  rw [inC, List.getElem?_map, List.getD_eq_getElem?_getD, List.getElem?_eq_getElem h]
  rfl
set_option maxHeartbeats 1600000 in
theorem ints_on {w : World} {g h n ca cb : Nat} {l : List Nat} (h1 : n ≤ 1000000) (HA : Hid (∀ j, j < n → w.cell? ⟨g, j, none⟩ = some (.int .i64 (l.getD j 0 : Nat)))) (HB : Hid (∀ j, j < n → w.cell? ⟨h, j, none⟩ = some (.int .i64 (l.getD j 0 : Nat)))) :
    Calls Try.prog 21 #[.slice (some ⟨g, 0, none⟩) n ca, .slice (some ⟨h, 0, none⟩) n cb] w fun e w' => e = .returned (.bool true) ∧ Dr w w' := by
  go_enter Try.func21, Try.ntmps21
  go_wp2
  go_loopw [5] (fun i wr => ∃ k : Nat, k ≤ n ∧ i = .int .i64 k ∧ Dr w wr) (fun i _ => n - (intOf i).toNat)
  case atStart => exact ⟨0, by omega, rfl, Dr.refl _⟩
  case round =>
    obtain ⟨k, hk, rfl, hdr⟩ := hrel
    by_cases hlt : k < n
    · have z1 := (hdr.cell _).trans (HA.out k hlt)
      have z2 := (hdr.cell _).trans (HB.out k hlt)
      have HD := Lib.hid hdr
      clear hdr
      generalize ((l.getD k 0 : Nat) : Int) = x at *
      go_wp2
      go_quiet (fail)
      go_wp2
      go_roundw
      case rel => exact ⟨k + 1, by omega, by go_num, HD.out.more _⟩
      case measure => simp [intOf]; omega
    · have hlt' : decide (k < n) = false := by simpa using hlt
      have HD := Lib.hid hdr
      clear hdr hlt
      go_wp2
      go_ret
      exact ⟨rfl, HD.out⟩
theorem ints_none (ao bo : Option Addr) (c d : Nat) (w : World) :
    Calls Try.prog 21 #[.slice ao 0 c, .slice bo 0 d] w fun e w' => e = .returned (.bool true) ∧ Dr w w' := by
  go_enter Try.func21, Try.ntmps21
  go_wp2
  refine wp_loop_rounds 1 ?_
  rw [rounds_succ]
  go_wp2
  go_ret
  exact ⟨rfl, Dr.refl _⟩
theorem own_ints {w : World} {N n : Nat} {x : Value} {l : List Nat} (h : w.ownsRow N 3 1 x n (inC l)) : (n = 0 ∧ ∃ ao cap, x = .slice ao 0 cap) ∨ (∃ g cap, x = .slice (some ⟨g, 0, none⟩) n cap ∧ N ≤ g ∧ g < w.heap.size ∧ ∀ j, j < n → w.cell? ⟨g, j, none⟩ = some (.int .i64 (l.getD j 0 : Nat))) := by
  have hlen : l.length = n := by have := h.1; rw [inC_len] at this; omega
  have hlt := h.lt
  rcases h.2 with ⟨rfl, rfl⟩ | ⟨g, cap, cur, rfl, hb, _⟩
  · exact .inl ⟨rfl, _, _, rfl⟩
  · refine .inr ⟨g, cap, rfl, hb, (hlt g rfl).2, fun j hj => ?_⟩
    rw [h.cellAt j (by omega), inC_get (by omega)]
/-- Equal rows of whole numbers compared. -/
theorem ints_same {w : World} {N M n : Nat} {x y : Value} {l : List Nat} (hx : w.ownsRow N 3 1 x n (inC l)) (hy : w.ownsRow M 3 1 y n (inC l)) (h1 : n ≤ 1000000) : Calls Try.prog 21 #[x, y] w fun e w' => e = .returned (.bool true) ∧ Dr w w' := by
  rcases own_ints hx with ⟨h0, ao, c, rfl⟩ | ⟨g, c, rfl, -, -, z1⟩
  · rcases own_ints hy with ⟨-, bo, d, rfl⟩ | ⟨h, d, rfl, -, -, z2⟩
    · exact ints_none ao bo c d w
    · subst h0; exact ints_none ao _ c d w
  · rcases own_ints hy with ⟨h0, bo, d, rfl⟩ | ⟨h, d, rfl, -, -, z2⟩
    · subst h0; exact ints_none _ bo c d w
    · exact ints_on h1 (Lib.hid z1) (Lib.hid z2)
end Go.Proofs.Ytdkpigfhdiopmaa
