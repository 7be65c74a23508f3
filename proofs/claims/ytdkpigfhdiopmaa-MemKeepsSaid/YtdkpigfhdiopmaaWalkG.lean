/-
  What the reference's Diff makes: the same indices. For slices of a bounded length.
-/
import Derived.Test.YtdkpigfhdiopmaaWalkF
namespace Go.Proofs.Ytdkpigfhdiopmaa
open Go.RowKit Go.Maps S01
set_option maxHeartbeats 3200000 in
theorem rdiff_on {w : World} {A B : Option Addr} {la lb ca cb N : Nat} {a b : List UInt8} (ha : ByR w (.slice A la ca) a) (hb : ByR w (.slice B lb cb) b) (hla : a.length = la) (hlb : b.length = lb) (h1 : la ≤ 1000000) (h2 : lb ≤ 1000000) (hN : (N = la ∧ lb ≤ N) ∨ (N = lb ∧ la ≤ N)) :
    Calls Try.prog 22 #[.slice A la ca, .slice B lb cb] w fun e w' => ∃ v', e = .returned v' ∧ DfR w w' v' a b N := by
  obtain ⟨i0, hi, hz0, hz1, hz2⟩ := info_parts info3
  have HI := Lib.hid (And.intro hi (And.intro hz0 (And.intro hz1 hz2)))
  have HCA := Lib.hid (by_cells ha hla)
  have HCB := Lib.hid (by_cells hb hlb)
  have HLA := Lib.hid hla
  have HLB := Lib.hid hlb
  have HNN := Lib.hid hN
  clear hi hz0 hz1 hz2 ha hb hla hlb hN
  go_enter Try.func22, Try.ntmps22
  go_wp2
  go_loopw [5, 6] (fun x i wr => ∃ k : Nat, k ≤ N ∧ i = .int .i64 k ∧ Hid (DfR w wr x a b k)) (fun _ i _ => N - (intOf i).toNat)
  case atStart => exact ⟨0, by omega, rfl, Lib.hid (DfR.start w a b)⟩
  case round =>
    obtain ⟨k, hk, rfl, hR⟩ := hrel
    by_cases hkn : k < N
    · obtain ⟨D, hDN⟩ : ∃ D, (MM.df a b k).length = D := ⟨_, rfl⟩
      have HDL := Lib.hid (show D ≤ 1000000 by have := MM.df_len a b k; have := HNN.out; omega)
      have HDN := Lib.hid hDN
      obtain ⟨X, hDX⟩ : ∃ X, inC (MM.df a b k) = X := ⟨_, rfl⟩
      have HDX := Lib.hid hDX
      have hk6 : k ≤ 1000000 := by have := HNN.out; omega
      clear hDN hDX
      by_cases hkA : k < la
      · by_cases hkB : k < lb
        · obtain ⟨g1, o1, rfl, z1⟩ := HCA.out k hkA
          obtain ⟨g2, o2, rfl, z2⟩ := HCB.out k hkB
          replace z1 := cell_below hR.out.2 z1
          replace z2 := cell_below hR.out.2 z2
          have hiff := at_both (a := a) (b := b) (k := k) (by have := HLA.out; omega) (by have := HLB.out; omega)
          generalize (a.getD k 0).toNat = X1 at *
          generalize (b.getD k 0).toNat = X2 at *
          by_cases he : (X1 : Int) = X2
          · have HR := Lib.hid (fun n => (hR.out.drew n).skip (hiff.2 he))
            have he' : ((X1 : Int) == X2) = true := by simpa using he
            have he'' : ((X1 : Int) != X2) = false := by simpa using he
            clear hiff
            go_wp2
            go_quiet (fail)
            go_wp2
            go_roundw
            case rel => exact ⟨k + 1, by omega, by go_num, Lib.hid (HR.out _)⟩
            case measure => simp [intOf]; omega
          · have HNE := Lib.hid (fun h => he (hiff.1 h))
            have he' : ((X1 : Int) == X2) = false := by simpa using he
            have he'' : ((X1 : Int) != X2) = true := by simpa using he
            clear hiff
            go_wp2
            go_quiet (fail)
            generalize hW1 : wr.drewN nq = W1
            have HR1 := Lib.hid (show DfR w W1 u5 a b k from hW1 ▸ hR.out.drew nq)
            have HD := Lib.hid (show W1.ownsRow w.heap.size 3 1 u5 D X by have := HR1.out.1; rw [HDN.out, HDX.out] at this; exact this)
            have HDS := Lib.hid HR1.out.2.size
            clear hW1 hR
            go_wp2_with (first
              | (at_builtin; refine wpList_append_own _ rfl _ _ 37 rfl w.heap.size 3 i0 (.int .i64 0) 1 8 Try.underlying37 HI.out.1 HI.out.2.1 HI.out.2.2.1 HI.out.2.2.2 rfl (by decide) _ _ _ rfl (HD.out.alloc _) ⟨_, 0, none⟩ 1 1 [.int .i64 k] rfl rfl ?c1 ?c2 ?c3 ?c4 ?c5 ?_)
              | go_in)
            case c1 => exact cell_one_new _ _ _
            case c2 => intro u hu; simp at hu; subst hu; rfl
            case c3 => have := HDL.out; unfold maxLen; omega
            case c4 => have := HDL.out; omega
            case c5 => have := HDS.out; simp; omega
            · intro x' w1 hown' hgrow _
              have HR := Lib.hid (HR1.out.more HNE.out HDN.out HDX.out hown' hgrow)
              clear hown' hgrow
              go_wp2
              go_roundw
              case rel => exact ⟨k + 1, by omega, by go_num, HR⟩
              case measure => simp [intOf]; omega
        · have HNE := Lib.hid (at_one (a := a) (b := b) (k := k) (by have := HLA.out; have := HLB.out; omega))
          have hkB' : lb ≤ k := by omega
          have q1 : decide (la ≤ k) = false := by simp; omega
          have q2 : decide (lb ≤ k) = true := by simpa using hkB'
          clear hkB
          go_wp2
          go_quiet (fail)
          generalize hW1 : wr.drewN nq = W1
          have HR1 := Lib.hid (show DfR w W1 u5 a b k from hW1 ▸ hR.out.drew nq)
          have HD := Lib.hid (show W1.ownsRow w.heap.size 3 1 u5 D X by have := HR1.out.1; rw [HDN.out, HDX.out] at this; exact this)
          have HDS := Lib.hid HR1.out.2.size
          clear hW1 hR
          go_wp2_with (first
            | (at_builtin; refine wpList_append_own _ rfl _ _ 37 rfl w.heap.size 3 i0 (.int .i64 0) 1 8 Try.underlying37 HI.out.1 HI.out.2.1 HI.out.2.2.1 HI.out.2.2.2 rfl (by decide) _ _ _ rfl (HD.out.alloc _) ⟨_, 0, none⟩ 1 1 [.int .i64 k] rfl rfl ?c1 ?c2 ?c3 ?c4 ?c5 ?_)
            | go_in)
          case c1 => exact cell_one_new _ _ _
          case c2 => intro u hu; simp at hu; subst hu; rfl
          case c3 => have := HDL.out; unfold maxLen; omega
          case c4 => have := HDL.out; omega
          case c5 => have := HDS.out; simp; omega
          · intro x' w1 hown' hgrow _
            have HR := Lib.hid (HR1.out.more HNE.out HDN.out HDX.out hown' hgrow)
            clear hown' hgrow
            go_wp2
            go_roundw
            case rel => exact ⟨k + 1, by omega, by go_num, HR⟩
            case measure => simp [intOf]; omega
      · have hkB : k < lb := by have := HNN.out; omega
        have HNE := Lib.hid (at_one (a := a) (b := b) (k := k) (by have := HLA.out; have := HLB.out; omega))
        have hkA' : la ≤ k := by omega
        have q1 : decide (la ≤ k) = true := by simpa using hkA'
        have q2 : decide (lb ≤ k) = false := by simp; omega
        clear hkA
        go_wp2
        go_quiet (fail)
        generalize hW1 : wr.drewN nq = W1
        have HR1 := Lib.hid (show DfR w W1 u5 a b k from hW1 ▸ hR.out.drew nq)
        have HD := Lib.hid (show W1.ownsRow w.heap.size 3 1 u5 D X by have := HR1.out.1; rw [HDN.out, HDX.out] at this; exact this)
        have HDS := Lib.hid HR1.out.2.size
        clear hW1 hR
        go_wp2_with (first
          | (at_builtin; refine wpList_append_own _ rfl _ _ 37 rfl w.heap.size 3 i0 (.int .i64 0) 1 8 Try.underlying37 HI.out.1 HI.out.2.1 HI.out.2.2.1 HI.out.2.2.2 rfl (by decide) _ _ _ rfl (HD.out.alloc _) ⟨_, 0, none⟩ 1 1 [.int .i64 k] rfl rfl ?c1 ?c2 ?c3 ?c4 ?c5 ?_)
          | go_in)
        case c1 => exact cell_one_new _ _ _
        case c2 => intro u hu; simp at hu; subst hu; rfl
        case c3 => have := HDL.out; unfold maxLen; omega
        case c4 => have := HDL.out; omega
        case c5 => have := HDS.out; simp; omega
        · intro x' w1 hown' hgrow _
          have HR := Lib.hid (HR1.out.more HNE.out HDN.out HDX.out hown' hgrow)
          clear hown' hgrow
          go_wp2
          go_roundw
          case rel => exact ⟨k + 1, by omega, by go_num, HR⟩
          case measure => simp [intOf]; omega
    · obtain rfl : k = N := by omega
      have e1 : decide (k < la) = false := by have := HNN.out; simp; omega
      have e2 : decide (k < lb) = false := by have := HNN.out; simp; omega
      clear hkn
      go_wp2
      go_ret
      exact ⟨_, rfl, hR.out⟩
theorem rdiff_any {w : World} {x y : Value} {a b : List UInt8} (ha : ByR w x a) (hb : ByR w y b) (h1 : a.length ≤ 1000000) (h2 : b.length ≤ 1000000) :
    Calls Try.prog 22 #[x, y] w fun e w' => ∃ v', e = .returned v' ∧ DfR w w' v' a b (max a.length b.length) := by
  obtain ⟨A, ca, rfl⟩ := by_form ha
  obtain ⟨B, cb, rfl⟩ := by_form hb
  exact rdiff_on ha hb rfl rfl h1 h2 (by omega)
end Go.Proofs.Ytdkpigfhdiopmaa
