/-
  What Diff makes: new memory with the indices at which two slices of bytes differ; nothing that was there is changed. For slices of a bounded length.
-/
import Derived.Test.YtdkpigfhdiopmaaWalkE
import Derived.Deep.QuietTactic
import Derived.BigQuiet
namespace Go.Proofs.Ytdkpigfhdiopmaa
open Go.RowKit Go.Maps S01
theorem info3 : (Try.prog.info? 3).map (fun i => (i.zero, i.size, i.bytes)) = some (some (.int .i64 0), 1, 8) := by kernel_rfl
/-- What the loop keeps: the differences found so far, in memory of its own. -/
def DfR (w wr : World) (x : Value) (a b : List UInt8) (k : Nat) : Prop := wr.ownsRow w.heap.size 3 1 x (MM.df a b k).length (inC (MM.df a b k)) ∧ Below w.heap.size w wr
theorem DfR.start (w : World) (a b : List UInt8) : DfR w w (.slice none 0 0) a b 0 := ⟨World.ownsRow_nil _ _ _ _, Below.refl _ _⟩
theorem DfR.drew {w wr : World} {x : Value} {a b : List UInt8} {k : Nat} (h : DfR w wr x a b k) (n : Nat) : DfR w (wr.drewN n) x a b k := ⟨own_later h.1 (below_drewN' _ _), below_then h.2 (below_drewN' _ _)⟩
theorem DfR.skip {w wr : World} {x : Value} {a b : List UInt8} {k : Nat} (h : DfR w wr x a b k) (e : a[k]? = b[k]?) : DfR w wr x a b (k + 1) := by
  unfold DfR
  rw [MM.df_succ, if_pos e, List.append_nil]
  exact h
theorem DfR.more {w wr w1 : World} {x x' : Value} {a b : List UInt8} {k n : Nat} {xs : List Value} (h : DfR w wr x a b k) (e : a[k]? ≠ b[k]?) {o : Obj} (hn : (MM.df a b k).length = n) (hxs : inC (MM.df a b k) = xs) (hown : w1.ownsRow w.heap.size 3 1 x' (n + 1) (xs ++ [.int .i64 k])) (hg : (wr.alloc o).grownBy w1 x.ownBlock) : DfR w w1 x' a b (k + 1) := by
  subst hn hxs
  unfold DfR
  rw [MM.df_succ, if_neg e]
  refine ⟨?_, (h.2.alloc h.2.size o).grown hg (Nat.le_trans h.2.size (by simp)) fun j hj => (h.1.lt j hj).1⟩
  rw [List.length_append, inC, List.map_append]
  exact hown
theorem at_both {a b : List UInt8} {k : Nat} (ha : k < a.length) (hb : k < b.length) : (a[k]? = b[k]?) ↔ ((a.getD k 0).toNat : Int) = ((b.getD k 0).toNat : Int) := by
  rw [getD_some ha, getD_some hb, Option.some.injEq, ← UInt8.toNat_inj]
  omega
theorem at_one {a b : List UInt8} {k : Nat} (h : (a.length ≤ k ∧ k < b.length) ∨ (b.length ≤ k ∧ k < a.length)) : a[k]? ≠ b[k]? := by
  rcases h with ⟨h1, h2⟩ | ⟨h1, h2⟩
  · rw [List.getElem?_eq_none h1, getD_some h2]; simp
  · rw [List.getElem?_eq_none h1, getD_some h2]; simp
/-- Where the bytes of a slice lie. -/
theorem by_cells {w : World} {A : Option Addr} {n c : Nat} {bs : List UInt8} (h : ByR w (.slice A n c) bs) (hn : bs.length = n) : ∀ k, k < n → ∃ g o, A = some ⟨g, o, none⟩ ∧ w.cell? ⟨g, o + k, none⟩ = some (.int .u8 (bs.getD k 0).toNat) := by
  intro k hk
  obtain ⟨g, o, e, -, -, hc⟩ := by_at h hn (by omega)
  exact ⟨g, o, e, hc k hk⟩
set_option maxHeartbeats 3200000 in
theorem diff_lt {w : World} {A B : Option Addr} {la lb ca cb : Nat} {a b : List UInt8} (ha : ByR w (.slice A la ca) a) (hb : ByR w (.slice B lb cb) b) (hla : a.length = la) (hlb : b.length = lb) (h1 : la ≤ 1000000) (h2 : lb ≤ 1000000) (hlt : la < lb) :
    Calls Try.prog 19 #[.slice A la ca, .slice B lb cb] w fun e w' => ∃ v', e = .returned v' ∧ DfR w w' v' a b lb := by
  obtain ⟨i0, hi, hz0, hz1, hz2⟩ := info_parts info3
  have HI := Lib.hid (And.intro hi (And.intro hz0 (And.intro hz1 hz2)))
  have HCA := Lib.hid (by_cells ha hla)
  have HCB := Lib.hid (by_cells hb hlb)
  have HLA := Lib.hid hla
  have HLB := Lib.hid hlb
  clear hi hz0 hz1 hz2 ha hb hla hlb
  have hlt' : ¬ lb < la := by omega
  go_enter Try.func19, Try.ntmps19
  go_wp2
  go_loopw [5, 18] (fun x i wr => ∃ k : Nat, k ≤ lb ∧ i = .int .i64 k ∧ Hid (DfR w wr x a b k)) (fun _ i _ => lb - (intOf i).toNat)
  case atStart => exact ⟨0, by omega, rfl, Lib.hid (DfR.start w a b)⟩
  case round =>
    obtain ⟨k, hk, rfl, hR⟩ := hrel
    by_cases hkn : k < lb
    · obtain ⟨D, hDN⟩ : ∃ D, (MM.df a b k).length = D := ⟨_, rfl⟩
      have HDL := Lib.hid (show D ≤ 1000000 by have := MM.df_len a b k; omega)
      have HDN := Lib.hid hDN
      obtain ⟨X, hDX⟩ : ∃ X, inC (MM.df a b k) = X := ⟨_, rfl⟩
      have HDX := Lib.hid hDX
      by_cases hkm : k < la
      · obtain ⟨g1, o1, rfl, z1⟩ := HCA.out k (by omega)
        obtain ⟨g2, o2, rfl, z2⟩ := HCB.out k (by omega)
        replace z1 := cell_below hR.out.2 z1
        replace z2 := cell_below hR.out.2 z2
        have hiff := at_both (a := a) (b := b) (k := k) (by have := HLA.out; omega) (by have := HLB.out; omega)
        generalize (a.getD k 0).toNat = X1 at *
        generalize (b.getD k 0).toNat = X2 at *
        clear hDN hDX
        by_cases he : (X1 : Int) = X2
        · have HR := Lib.hid (fun n => (hR.out.drew n).skip (hiff.2 he))
          have he' : ((X1 : Int) == X2) = true := by simpa using he
          have he'' : ((X1 : Int) != X2) = false := by simpa using he
          clear hiff
          go_wp2
          go_quiet (fail)
          go_wp2
          go_roundw
          case rel => exact ⟨k + 1, by omega, by go_num, Lib.hid (HR.out _)⟩
          case measure => simp [intOf]; omega
        · have HNE := Lib.hid (fun h => he (hiff.1 h))
          have he' : ((X1 : Int) == X2) = false := by simpa using he
          have he'' : ((X1 : Int) != X2) = true := by simpa using he
          clear hiff
          go_wp2
          go_quiet (fail)
          generalize hW1 : wr.drewN nq = W1
          have HR1 := Lib.hid (show DfR w W1 u5 a b k from hW1 ▸ hR.out.drew nq)
          have HD := Lib.hid (show W1.ownsRow w.heap.size 3 1 u5 D X by have := HR1.out.1; rw [HDN.out, HDX.out] at this; exact this)
          have HDS := Lib.hid HR1.out.2.size
          clear hW1 hR
          go_wp2_with (first
            | (at_builtin; refine wpList_append_own _ rfl _ _ 37 rfl w.heap.size 3 i0 (.int .i64 0) 1 8 Try.underlying37 HI.out.1 HI.out.2.1 HI.out.2.2.1 HI.out.2.2.2 rfl (by decide) _ _ _ rfl (HD.out.alloc _) ⟨_, 0, none⟩ 1 1 [.int .i64 k] rfl rfl ?c1 ?c2 ?c3 ?c4 ?c5 ?_)
            | go_in)
          case c1 => exact cell_one_new _ _ _
          case c2 => intro u hu; simp at hu; subst hu; rfl
          case c3 => have := HDL.out; unfold maxLen; omega
          case c4 => have := HDL.out; omega
          case c5 => have := HDS.out; simp; omega
          · intro x' w1 hown' hgrow _
            have HR := Lib.hid (HR1.out.more HNE.out HDN.out HDX.out hown' hgrow)
            clear hown' hgrow
            go_wp2
            go_roundw
            case rel => exact ⟨k + 1, by omega, by go_num, HR⟩
            case measure => simp [intOf]; omega
      · have HNE := Lib.hid (at_one (a := a) (b := b) (k := k) (by have := HLA.out; have := HLB.out; omega))
        have hkm' : la ≤ k := by omega
        clear hkm
        go_wp2
        go_quiet (fail)
        generalize hW1 : wr.drewN nq = W1
        have HR1 := Lib.hid (show DfR w W1 u5 a b k from hW1 ▸ hR.out.drew nq)
        have HD := Lib.hid (show W1.ownsRow w.heap.size 3 1 u5 D X by have := HR1.out.1; rw [HDN.out, HDX.out] at this; exact this)
        have HDS := Lib.hid HR1.out.2.size
        clear hW1 hR
        go_wp2_with (first
          | (at_builtin; refine wpList_append_own _ rfl _ _ 37 rfl w.heap.size 3 i0 (.int .i64 0) 1 8 Try.underlying37 HI.out.1 HI.out.2.1 HI.out.2.2.1 HI.out.2.2.2 rfl (by decide) _ _ _ rfl (HD.out.alloc _) ⟨_, 0, none⟩ 1 1 [.int .i64 k] rfl rfl ?c1 ?c2 ?c3 ?c4 ?c5 ?_)
          | go_in)
        case c1 => exact cell_one_new _ _ _
        case c2 => intro u hu; simp at hu; subst hu; rfl
        case c3 => have := HDL.out; unfold maxLen; omega
        case c4 => have := HDL.out; omega
        case c5 => have := HDS.out; simp; omega
        · intro x' w1 hown' hgrow _
          have HR := Lib.hid (HR1.out.more HNE.out HDN.out HDX.out hown' hgrow)
          clear hown' hgrow
          go_wp2
          go_roundw
          case rel => exact ⟨k + 1, by omega, by go_num, HR⟩
          case measure => simp [intOf]; omega
    · have hlt2 : decide (k < lb) = false := by simpa using hkn
      obtain rfl : k = lb := by omega
      clear hkn
      go_wp2
      go_ret
      exact ⟨_, rfl, hR.out⟩
set_option maxHeartbeats 3200000 in
theorem diff_gt {w : World} {A B : Option Addr} {la lb ca cb : Nat} {a b : List UInt8} (ha : ByR w (.slice A la ca) a) (hb : ByR w (.slice B lb cb) b) (hla : a.length = la) (hlb : b.length = lb) (h1 : la ≤ 1000000) (_h2 : lb ≤ 1000000) (hlt : lb < la) :
    Calls Try.prog 19 #[.slice A la ca, .slice B lb cb] w fun e w' => ∃ v', e = .returned v' ∧ DfR w w' v' a b la := by
  obtain ⟨i0, hi, hz0, hz1, hz2⟩ := info_parts info3
  have HI := Lib.hid (And.intro hi (And.intro hz0 (And.intro hz1 hz2)))
  have HCA := Lib.hid (by_cells ha hla)
  have HCB := Lib.hid (by_cells hb hlb)
  have HLA := Lib.hid hla
  have HLB := Lib.hid hlb
  clear hi hz0 hz1 hz2 ha hb hla hlb
  have hlt' : ¬ la < lb := by omega
  go_enter Try.func19, Try.ntmps19
  go_wp2
  go_loopw [5, 18] (fun x i wr => ∃ k : Nat, k ≤ la ∧ i = .int .i64 k ∧ Hid (DfR w wr x a b k)) (fun _ i _ => la - (intOf i).toNat)
  case atStart => exact ⟨0, by omega, rfl, Lib.hid (DfR.start w a b)⟩
  case round =>
    obtain ⟨k, hk, rfl, hR⟩ := hrel
    by_cases hkn : k < la
    · obtain ⟨D, hDN⟩ : ∃ D, (MM.df a b k).length = D := ⟨_, rfl⟩
      have HDL := Lib.hid (show D ≤ 1000000 by have := MM.df_len a b k; omega)
      have HDN := Lib.hid hDN
      obtain ⟨X, hDX⟩ : ∃ X, inC (MM.df a b k) = X := ⟨_, rfl⟩
      have HDX := Lib.hid hDX
      by_cases hkm : k < lb
      · obtain ⟨g1, o1, rfl, z1⟩ := HCA.out k (by omega)
        obtain ⟨g2, o2, rfl, z2⟩ := HCB.out k (by omega)
        replace z1 := cell_below hR.out.2 z1
        replace z2 := cell_below hR.out.2 z2
        have hiff := at_both (a := a) (b := b) (k := k) (by have := HLA.out; omega) (by have := HLB.out; omega)
        generalize (a.getD k 0).toNat = X1 at *
        generalize (b.getD k 0).toNat = X2 at *
        clear hDN hDX
        by_cases he : (X1 : Int) = X2
        · have HR := Lib.hid (fun n => (hR.out.drew n).skip (hiff.2 he))
          have he' : ((X1 : Int) == X2) = true := by simpa using he
          have he'' : ((X1 : Int) != X2) = false := by simpa using he
          clear hiff
          go_wp2
          go_quiet (fail)
          go_wp2
          go_roundw
          case rel => exact ⟨k + 1, by omega, by go_num, Lib.hid (HR.out _)⟩
          case measure => simp [intOf]; omega
        · have HNE := Lib.hid (fun h => he (hiff.1 h))
          have he' : ((X1 : Int) == X2) = false := by simpa using he
          have he'' : ((X1 : Int) != X2) = true := by simpa using he
          clear hiff
          go_wp2
          go_quiet (fail)
          generalize hW1 : wr.drewN nq = W1
          have HR1 := Lib.hid (show DfR w W1 u5 a b k from hW1 ▸ hR.out.drew nq)
          have HD := Lib.hid (show W1.ownsRow w.heap.size 3 1 u5 D X by have := HR1.out.1; rw [HDN.out, HDX.out] at this; exact this)
          have HDS := Lib.hid HR1.out.2.size
          clear hW1 hR
          go_wp2_with (first
            | (at_builtin; refine wpList_append_own _ rfl _ _ 37 rfl w.heap.size 3 i0 (.int .i64 0) 1 8 Try.underlying37 HI.out.1 HI.out.2.1 HI.out.2.2.1 HI.out.2.2.2 rfl (by decide) _ _ _ rfl (HD.out.alloc _) ⟨_, 0, none⟩ 1 1 [.int .i64 k] rfl rfl ?c1 ?c2 ?c3 ?c4 ?c5 ?_)
            | go_in)
          case c1 => exact cell_one_new _ _ _
          case c2 => intro u hu; simp at hu; subst hu; rfl
          case c3 => have := HDL.out; unfold maxLen; omega
          case c4 => have := HDL.out; omega
          case c5 => have := HDS.out; simp; omega
          · intro x' w1 hown' hgrow _
            have HR := Lib.hid (HR1.out.more HNE.out HDN.out HDX.out hown' hgrow)
            clear hown' hgrow
            go_wp2
            go_roundw
            case rel => exact ⟨k + 1, by omega, by go_num, HR⟩
            case measure => simp [intOf]; omega
      · have HNE := Lib.hid (at_one (a := a) (b := b) (k := k) (by have := HLA.out; have := HLB.out; omega))
        have hkm' : lb ≤ k := by omega
        clear hkm
        go_wp2
        go_quiet (fail)
        generalize hW1 : wr.drewN nq = W1
        have HR1 := Lib.hid (show DfR w W1 u5 a b k from hW1 ▸ hR.out.drew nq)
        have HD := Lib.hid (show W1.ownsRow w.heap.size 3 1 u5 D X by have := HR1.out.1; rw [HDN.out, HDX.out] at this; exact this)
        have HDS := Lib.hid HR1.out.2.size
        clear hW1 hR
        go_wp2_with (first
          | (at_builtin; refine wpList_append_own _ rfl _ _ 37 rfl w.heap.size 3 i0 (.int .i64 0) 1 8 Try.underlying37 HI.out.1 HI.out.2.1 HI.out.2.2.1 HI.out.2.2.2 rfl (by decide) _ _ _ rfl (HD.out.alloc _) ⟨_, 0, none⟩ 1 1 [.int .i64 k] rfl rfl ?c1 ?c2 ?c3 ?c4 ?c5 ?_)
          | go_in)
        case c1 => exact cell_one_new _ _ _
        case c2 => intro u hu; simp at hu; subst hu; rfl
        case c3 => have := HDL.out; unfold maxLen; omega
        case c4 => have := HDL.out; omega
        case c5 => have := HDS.out; simp; omega
        · intro x' w1 hown' hgrow _
          have HR := Lib.hid (HR1.out.more HNE.out HDN.out HDX.out hown' hgrow)
          clear hown' hgrow
          go_wp2
          go_roundw
          case rel => exact ⟨k + 1, by omega, by go_num, HR⟩
          case measure => simp [intOf]; omega
    · have hlt2 : decide (k < la) = false := by simpa using hkn
      obtain rfl : k = la := by omega
      clear hkn
      go_wp2
      go_ret
      exact ⟨_, rfl, hR.out⟩
set_option maxHeartbeats 3200000 in
theorem diff_eq {w : World} {A B : Option Addr} {la ca cb : Nat} {a b : List UInt8} (ha : ByR w (.slice A la ca) a) (hb : ByR w (.slice B la cb) b) (hla : a.length = la) (hlb : b.length = la) (h1 : la ≤ 1000000) :
    Calls Try.prog 19 #[.slice A la ca, .slice B la cb] w fun e w' => ∃ v', e = .returned v' ∧ DfR w w' v' a b la := by
  obtain ⟨i0, hi, hz0, hz1, hz2⟩ := info_parts info3
  have HI := Lib.hid (And.intro hi (And.intro hz0 (And.intro hz1 hz2)))
  have HCA := Lib.hid (by_cells ha hla)
  have HCB := Lib.hid (by_cells hb hlb)
  have HLA := Lib.hid hla
  have HLB := Lib.hid hlb
  clear hi hz0 hz1 hz2 ha hb hla hlb
  go_enter Try.func19, Try.ntmps19
  go_wp2
  go_loopw [5, 18] (fun x i wr => ∃ k : Nat, k ≤ la ∧ i = .int .i64 k ∧ Hid (DfR w wr x a b k)) (fun _ i _ => la - (intOf i).toNat)
  case atStart => exact ⟨0, by omega, rfl, Lib.hid (DfR.start w a b)⟩
  case round =>
    obtain ⟨k, hk, rfl, hR⟩ := hrel
    by_cases hkn : k < la
    · obtain ⟨D, hDN⟩ : ∃ D, (MM.df a b k).length = D := ⟨_, rfl⟩
      have HDL := Lib.hid (show D ≤ 1000000 by have := MM.df_len a b k; omega)
      have HDN := Lib.hid hDN
      obtain ⟨X, hDX⟩ : ∃ X, inC (MM.df a b k) = X := ⟨_, rfl⟩
      have HDX := Lib.hid hDX
      have hkm : k < la := hkn
      obtain ⟨g1, o1, rfl, z1⟩ := HCA.out k (by omega)
      obtain ⟨g2, o2, rfl, z2⟩ := HCB.out k (by omega)
      replace z1 := cell_below hR.out.2 z1
      replace z2 := cell_below hR.out.2 z2
      have hiff := at_both (a := a) (b := b) (k := k) (by have := HLA.out; omega) (by have := HLB.out; omega)
      generalize (a.getD k 0).toNat = X1 at *
      generalize (b.getD k 0).toNat = X2 at *
      clear hDN hDX
      by_cases he : (X1 : Int) = X2
      · have HR := Lib.hid (fun n => (hR.out.drew n).skip (hiff.2 he))
        have he' : ((X1 : Int) == X2) = true := by simpa using he
        have he'' : ((X1 : Int) != X2) = false := by simpa using he
        clear hiff
        go_wp2
        go_quiet (fail)
        go_wp2
        go_roundw
        case rel => exact ⟨k + 1, by omega, by go_num, Lib.hid (HR.out _)⟩
        case measure => simp [intOf]; omega
      · have HNE := Lib.hid (fun h => he (hiff.1 h))
        have he' : ((X1 : Int) == X2) = false := by simpa using he
        have he'' : ((X1 : Int) != X2) = true := by simpa using he
        clear hiff
        go_wp2
        go_quiet (fail)
        generalize hW1 : wr.drewN nq = W1
        have HR1 := Lib.hid (show DfR w W1 u5 a b k from hW1 ▸ hR.out.drew nq)
        have HD := Lib.hid (show W1.ownsRow w.heap.size 3 1 u5 D X by have := HR1.out.1; rw [HDN.out, HDX.out] at this; exact this)
        have HDS := Lib.hid HR1.out.2.size
        clear hW1 hR
        go_wp2_with (first
          | (at_builtin; refine wpList_append_own _ rfl _ _ 37 rfl w.heap.size 3 i0 (.int .i64 0) 1 8 Try.underlying37 HI.out.1 HI.out.2.1 HI.out.2.2.1 HI.out.2.2.2 rfl (by decide) _ _ _ rfl (HD.out.alloc _) ⟨_, 0, none⟩ 1 1 [.int .i64 k] rfl rfl ?c1 ?c2 ?c3 ?c4 ?c5 ?_)
          | go_in)
        case c1 => exact cell_one_new _ _ _
        case c2 => intro u hu; simp at hu; subst hu; rfl
        case c3 => have := HDL.out; unfold maxLen; omega
        case c4 => have := HDL.out; omega
        case c5 => have := HDS.out; simp; omega
        · intro x' w1 hown' hgrow _
          have HR := Lib.hid (HR1.out.more HNE.out HDN.out HDX.out hown' hgrow)
          clear hown' hgrow
          go_wp2
          go_roundw
          case rel => exact ⟨k + 1, by omega, by go_num, HR⟩
          case measure => simp [intOf]; omega
    · have hlt2 : decide (k < la) = false := by simpa using hkn
      obtain rfl : k = la := by omega
      clear hkn
      go_wp2
      go_ret
      exact ⟨_, rfl, hR.out⟩
theorem diff_any {w : World} {x y : Value} {a b : List UInt8} (ha : ByR w x a) (hb : ByR w y b) (h1 : a.length ≤ 1000000) (h2 : b.length ≤ 1000000) :
    Calls Try.prog 19 #[x, y] w fun e w' => ∃ v', e = .returned v' ∧ DfR w w' v' a b (max a.length b.length) := by
  obtain ⟨A, ca, rfl⟩ := by_form ha
  obtain ⟨B, cb, rfl⟩ := by_form hb
  obtain ⟨la, hla⟩ : ∃ n, a.length = n := ⟨_, rfl⟩
  obtain ⟨lb, hlb⟩ : ∃ n, b.length = n := ⟨_, rfl⟩
  rw [hla] at ha h1
  rw [hlb] at hb h2
  rw [hla, hlb]
  rcases Nat.lt_trichotomy la lb with h | h | h
  · rw [show max la lb = lb by omega]
    exact diff_lt ha hb hla hlb h1 h2 h
  · subst h
    rw [show max la la = la by omega]
    exact diff_eq ha hb hla hlb h1
  · rw [show max la lb = la by omega]
    exact diff_gt ha hb hla hlb h1 h2 h
end Go.Proofs.Ytdkpigfhdiopmaa
