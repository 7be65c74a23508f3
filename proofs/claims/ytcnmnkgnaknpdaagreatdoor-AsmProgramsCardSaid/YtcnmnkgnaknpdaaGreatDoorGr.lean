/-
  What the reference's lay answers: an item more, or why not; its parts.
  What the reference's lay answers, walked: an item more, or why not.
  What the reference's lay and equ answer, in the words of the specification.
  What the reference's equ answers.
  What the reference's one answers: a line's words behind its labels.
-/
import Derived.Test.YtcnmnkgnaknpdaaGreatDoorGq
import Derived.Deep.RegionLaw
import Derived.Deep.RegionWith

/-! RfF -/
namespace Go.Proofs.YtcnmnkgnaknpdaaGreatDoor
open Go.RowKit Go.Maps S02 S06 S07
def LyPost (N : Nat) (w : World) (E : Int) (xs : List (AS.It × Value)) (ns : List (List UInt8 × Nat)) (pos : Nat) (e : Ending) (w' : World) : Prop :=
  ∃ vi vn P, e = .returned (.tuple #[.agg #[vi, vn, .int .i64 P], .int .i64 E]) ∧ (∃ a n c, vi = .slice a n c) ∧ (∃ a n c, vn = .slice a n c) ∧ RM N w w' ∧ (E = 0 → RS N w' vi vn xs ns ∧ P = (pos : Int))
/-- While the items are looked over: three blocks of one's own. -/
structure YB (w wr : World) (vi vn wv : Value) (kd ln a0 sz pos : Nat) : Prop where
  old : Below w.heap.size w wr
  b0 : wr.heap[w.heap.size]? = some (.cells #[vi, vn, .int .i64 pos] 70 (0, 0))
  b1 : wr.heap[w.heap.size + 1]? = some (.cells #[.int .i64 kd, .int .i64 ln, .int .i64 a0, .int .i64 sz, wv] 74 (0, 0))
  b2 : wr.heap[w.heap.size + 1 + 1]? = some (.cells #[.slice none 0 0, .slice none 0 0, .int .i64 0] 70 (0, 0))
theorem three_new (w : World) (o1 o2 o3 : Obj) : (((w.alloc o1).alloc o2).alloc o3).heap[w.heap.size]? = some o1 ∧ (((w.alloc o1).alloc o2).alloc o3).heap[w.heap.size + 1]? = some o2 ∧ (((w.alloc o1).alloc o2).alloc o3).heap[w.heap.size + 1 + 1]? = some o3 ∧ Below w.heap.size w (((w.alloc o1).alloc o2).alloc o3) := by
  have e0 : (w.alloc o1).heap.size = w.heap.size + 1 := by simp
  have e1 : ((w.alloc o1).alloc o2).heap.size = w.heap.size + 1 + 1 := by simp
  refine ⟨?_, ?_, ?_, (((Below.refl _ w).alloc (Nat.le_refl _) o1).alloc (by omega) o2).alloc (by omega) o3⟩
  · rw [Below.heap_alloc _ _ _ (by omega), Below.heap_alloc _ _ _ (by omega)]
    exact heap_alloc_new w o1
  · rw [Below.heap_alloc _ _ _ (by omega), ← e0]
    exact heap_alloc_new (w.alloc o1) o2
  · rw [← e1]
    exact heap_alloc_new ((w.alloc o1).alloc o2) o3
theorem YB.start (w : World) (vi vn wv : Value) (kd ln a0 sz pos : Nat) : YB w (((w.alloc (.cells #[vi, vn, .int .i64 pos] 70)).alloc (.cells #[.int .i64 kd, .int .i64 ln, .int .i64 a0, .int .i64 sz, wv] 74)).alloc (.cells #[.slice none 0 0, .slice none 0 0, .int .i64 0] 70)) vi vn wv kd ln a0 sz pos := by
  obtain ⟨h1, h2, h3, h4⟩ := three_new w (.cells #[vi, vn, .int .i64 pos] 70) (.cells #[.int .i64 kd, .int .i64 ln, .int .i64 a0, .int .i64 sz, wv] 74) (.cells #[.slice none 0 0, .slice none 0 0, .int .i64 0] 70)
  exact ⟨h4, h1, h2, h3⟩
theorem YB.alloc {w wr : World} {vi vn wv : Value} {kd ln a0 sz pos : Nat} (h : YB w wr vi vn wv kd ln a0 sz pos) (o : Obj) : YB w (wr.alloc o) vi vn wv kd ln a0 sz pos :=
  ⟨h.old.alloc h.old.size o, (Below.heap_alloc _ _ _ (lt_of_heap h.b0)).trans h.b0, (Below.heap_alloc _ _ _ (lt_of_heap h.b1)).trans h.b1, (Below.heap_alloc _ _ _ (lt_of_heap h.b2)).trans h.b2⟩
theorem below_set {B : Nat} {w wr : World} (h : Below B w wr) {b o : Nat} (hb : B ≤ b) (u : Value) : Below B w (wr.setCell ⟨b, o, none⟩ u) := h.setCell hb u
theorem LyPost.bad {N : Nat} {w w' : World} {E P : Int} {xs : List (AS.It × Value)} {ns : List (List UInt8 × Nat)} {pos : Nat} {a a' : Option Addr} {n c n' c' : Nat} (hE : ¬ E = 0) (hN : N ≤ w.heap.size) (hb : Below w.heap.size w w') : LyPost N w E xs ns pos (.returned (.tuple #[.agg #[.slice a n c, .slice a' n' c', .int .i64 P], .int .i64 E])) w' :=
  ⟨_, _, P, rfl, ⟨_, _, _, rfl⟩, ⟨_, _, _, rfl⟩, RM.below hb hN, fun h => absurd h hE⟩
/-- At the end: the rows, and the two blocks of programs. -/
structure LQ (N : Nat) (w W : World) (vi vn : Value) (xs : List (AS.It × Value)) (ns : List (List UInt8 × Nat)) (b c : Nat) : Prop where
  rs : RS N W vi vn xs ns
  rm : RM N w W
  hb : w.heap.size ≤ b ∧ w.heap.size ≤ c ∧ N ≤ w.heap.size ∧ b ≠ c
  bb : ∃ d f, W.heap[b]? = some (.cells d 70 f)
  bc : ∃ d f, W.heap[c]? = some (.cells d 70 f)
theorem LQ.set {N : Nat} {w W : World} {vi vn : Value} {xs : List (AS.It × Value)} {ns : List (List UInt8 × Nat)} {b c o : Nat} {u : Value} (h : LQ N w W vi vn xs ns b c) : LQ N w (W.setCell ⟨b, o, none⟩ u) vi vn xs ns b c := by
  obtain ⟨d, f, hk⟩ := h.bb
  obtain ⟨d', f', hk'⟩ := h.bc
  exact ⟨h.rs.off hk (by decide) _ _, h.rm.set h.hb.2.2.1 h.hb.1, h.hb, ⟨_, _, heap_set hk⟩, ⟨_, _, (heap_other (Ne.symm h.hb.2.2.2)).trans hk'⟩⟩
theorem LQ.swap {N : Nat} {w W : World} {vi vn : Value} {xs : List (AS.It × Value)} {ns : List (List UInt8 × Nat)} {b c : Nat} (h : LQ N w W vi vn xs ns b c) : LQ N w W vi vn xs ns c b := ⟨h.rs, h.rm, ⟨h.hb.2.1, h.hb.1, h.hb.2.2.1, Ne.symm h.hb.2.2.2⟩, h.bc, h.bb⟩
theorem YB.at {w wr : World} {vi vn wv : Value} {kd ln a0 sz pos : Nat} (h : YB w wr vi vn wv kd ln a0 sz pos) (p : Nat) : YB w (wr.setCell ⟨w.heap.size + 1, 2, none⟩ (.int .i64 p)) vi vn wv kd ln p sz pos :=
  ⟨h.old.setCell (Nat.le_succ _) _, (heap_other (by omega)).trans h.b0, heap_set h.b1, (heap_other (by omega)).trans h.b2⟩
/-- An item more. -/
theorem YB.item {N : Nat} {w wr w3 : World} {vi vi' vn wv : Value} {kd ln sz pos : Nat} {xs : List (AS.It × Value)} {ns : List (List UInt8 × Nat)} {words : List (List UInt8)} {o : Obj} (h : YB w wr vi vn wv kd ln pos sz pos) (hr : RS N w vi vn xs ns) (hN : N ≤ w.heap.size) (hw : TxR w wv words) (hg : (wr.alloc o).grownBy w3 vi.ownBlock) (ho : w3.ownsRow N 74 5 vi' (xs.length + 1) (itC xs ++ [.int .i64 kd, .int .i64 ln, .int .i64 pos, .int .i64 sz, wv])) :
    w3.heap[w.heap.size]? = some (.cells #[vi, vn, .int .i64 pos] 70 (0, 0)) ∧ w3.heap[w.heap.size + 1 + 1]? = some (.cells #[.slice none 0 0, .slice none 0 0, .int .i64 0] 70 (0, 0)) ∧ w3.heap[w.heap.size + 1]? = some (.cells #[.int .i64 kd, .int .i64 ln, .int .i64 pos, .int .i64 sz, wv] 74 (0, 0)) ∧ LQ N w w3 vi' vn (xs ++ [(⟨kd, ln, pos, sz, words⟩, wv)]) ns w.heap.size (w.heap.size + 1 + 1) := by
  have ha := h.alloc o
  have hs := ha.old.size
  obtain ⟨q1, q2⟩ := (hr.below ha.old).item (x := ⟨kd, ln, pos, sz, words⟩) (Nat.le_trans hN hs) (hw.rm (RM.below (N := 0) ha.old (Nat.zero_le _))) hg ho
  have b0 := (q2.kind _ _ _ _ ha.b0 (by decide) (by decide)).trans ha.b0
  have b2 := (q2.kind _ _ _ _ ha.b2 (by decide) (by decide)).trans ha.b2
  have b1 : w3.heap[w.heap.size + 1]? = some (.cells #[.int .i64 kd, .int .i64 ln, .int .i64 pos, .int .i64 sz, wv] 74 (0, 0)) := by
    rw [hg.block _ (lt_of_heap ha.b1) (fun e => ?_)]
    · exact ha.b1
    · have := (own_lt hr.its e.symm).2.1
      omega
  exact ⟨b0, b2, b1, q1, (RM.below ha.old hN).trans q2, ⟨Nat.le_refl _, by omega, hN, by omega⟩, ⟨_, _, b0⟩, ⟨_, _, b2⟩⟩
theorem LyPost.ok {N : Nat} {w w' : World} {E : Int} {xs : List (AS.It × Value)} {ns : List (List UInt8 × Nat)} {pos : Nat} {P : Int} {vi vn : Value} {b c : Nat} (hE : E = 0) (hP : P = pos) (h : LQ N w w' vi vn xs ns b c) : LyPost N w E xs ns pos (.returned (.tuple #[.agg #[vi, vn, .int .i64 P], .int .i64 0])) w' :=
  ⟨vi, vn, P, by rw [hE], (by obtain ⟨a, c, e⟩ := own_form h.rs.its; exact ⟨a, _, c, e⟩), (by obtain ⟨a, c, e⟩ := own_form h.rs.nms; exact ⟨a, _, c, e⟩), h.rm, fun _ => ⟨h.rs, hP⟩⟩
end Go.Proofs.YtcnmnkgnaknpdaaGreatDoor
/-! RfG -/
namespace Go.Proofs.YtcnmnkgnaknpdaaGreatDoor
open Go.RowKit Go.Maps S02 S06 S07
theorem item_info : (Tryz.prog.info? 74).map (fun i => (i.zero, i.size, i.bytes)) = some (some (.agg #[.int .i64 0, .int .i64 0, .int .i64 0, .int .i64 0, .slice none 0 0]), 5, 56) := by kernel_rfl
theorem five_new (w : World) (a b c d e : Value) (t : TypeId) (N : Nat) (h : w.heap.size = N) : ∀ j u, [a, b, c, d, e][j]? = some u → (w.alloc (.cells #[a, b, c, d, e] t)).cell? ((⟨N, 0, none⟩ : Addr).add j) = some u := by
  subst h
  intro j u hj
  rw [Lib.add_plain, Nat.zero_add]
  refine cell_of (heap_alloc_new w _) ?_
  rw [← hj]
  match j with
  | 0 => rfl
  | 1 => rfl
  | 2 => rfl
  | 3 => rfl
  | 4 => rfl
  | j + 5 => simp
theorem five_one (a b c d : Int) (x : Option Addr) (n k : Nat) : ∀ z ∈ [Value.int .i64 a, .int .i64 b, .int .i64 c, .int .i64 d, .slice x n k], z.oneCell' = true := by
  intro z hz
  simp at hz
  rcases hz with rfl | rfl | rfl | rfl | rfl <;> rfl
set_option maxHeartbeats 8000000 in
theorem lay_3 {N : Nat} {w : World} {vi vn wv : Value} {xs : List (AS.It × Value)} {ns : List (List UInt8 × Nat)} {words : List (List UInt8)} {pos : Nat} (kd ln a0 sz : Nat) (hN : N ≤ w.heap.size) (hr : RS N w vi vn xs ns) (hw : TxR w wv words) (hx : ∀ p ∈ xs, p.1.pos + p.1.size ≤ 16384) (hl : xs.length ≤ 100000) (hk1 : ((kd : Int) == 1) = false) (hk2 : ((kd : Int) == 2) = false) (h16 : pos + sz ≤ 16384) :
    Calls Tryz.prog 99 #[.agg #[vi, vn, .int .i64 pos], .agg #[.int .i64 kd, .int .i64 ln, .int .i64 a0, .int .i64 sz, wv]] w (LyPost N w (if AS.ovl (AS.cov (xs.map (·.1))) pos sz = true then 7 else 0) (xs ++ [(⟨kd, ln, pos, sz, words⟩, wv)]) ns (pos + sz)) := by
  obtain ⟨i74, HI⟩ := info_parts item_info
  have HI := Lib.hid HI
  obtain ⟨ia, ic, rfl⟩ := own_form hr.its
  obtain ⟨na, nc, rfl⟩ := own_form hr.nms
  obtain ⟨wl, hwl⟩ : ∃ n, words.length = n := ⟨_, rfl⟩
  obtain ⟨wa, wc, rfl⟩ : ∃ a c, wv = .slice a wl c := by
    obtain ⟨a, c, h⟩ := txr_len hw
    exact ⟨a, c, by rw [h, hwl]⟩
  obtain ⟨n, hn⟩ : ∃ n, xs.length = n := ⟨_, rfl⟩
  have HS := Lib.hid (YB.start w (.slice ia xs.length ic) (.slice na ns.length nc) (.slice wa wl wc) kd ln a0 sz pos)
  have HR := Lib.hid hr
  have HW := Lib.hid hw
  have HX := Lib.hid hx
  have HN := Lib.hid hN
  have HNN := Lib.hid hn
  have hn1 : n ≤ 100000 := by omega
  have h16' : (pos : Int) + sz ≤ 16384 := by omega
  have h16'' : decide (16384 < (pos : Int) + sz) = false := by simp; omega
  clear hr hw hx hl hwl hN h16
  rw [hn] at HS ⊢
  clear hn
  obtain ⟨E, hE⟩ : ∃ E : Int, (if AS.ovl (AS.cov (xs.map (·.1))) pos sz = true then 7 else 0) = E := ⟨_, rfl⟩
  rw [hE]
  have HE := Lib.hid hE
  clear hE
  go_enter Tryz.func99, Tryz.ntmps99
  go_wp2
  go_loopw [6] (fun i wr => ∃ k : Nat, k ≤ n ∧ i = .int .i64 k ∧ Hid (YB w wr (.slice ia n ic) (.slice na ns.length nc) (.slice wa wl wc) kd ln a0 sz pos) ∧ Hid (∀ j p, j < k → xs[j]? = some p → AS.lap pos sz p.1 = false)) (fun i _ => n - (intOf i).toNat)
  case atStart => exact ⟨0, by omega, rfl, HS, Lib.hid fun j p hj => absurd hj (by omega)⟩
  case round =>
    obtain ⟨k, hk, rfl, HB, hno⟩ := hrel
    clear HS
    have p0 := cell_of (o := 0) HB.out.b0 rfl
    have p1 := cell_of (o := 1) HB.out.b0 rfl
    have p2 := cell_of (o := 2) HB.out.b0 rfl
    have q0 := cell_of (o := 0) HB.out.b1 rfl
    have q1 := cell_of (o := 1) HB.out.b1 rfl
    have q2 := cell_of (o := 2) HB.out.b1 rfl
    have q3 := cell_of (o := 3) HB.out.b1 rfl
    have q4 := cell_of (o := 4) HB.out.b1 rfl
    have r0 := cell_of (o := 0) HB.out.b2 rfl
    have r1 := cell_of (o := 1) HB.out.b2 rfl
    have r2 := cell_of (o := 2) HB.out.b2 rfl
    have pf := fun o => unfrozen (o := o) HB.out.b0
    have qf := fun o => unfrozen (o := o) HB.out.b1
    have rf := fun o => unfrozen (o := o) HB.out.b2
    by_cases hlt : k < n
    · have hlt' : decide (k < n) = true := by simpa using hlt
      have hkl : k < xs.length := by rw [HNN.out]; exact hlt
      obtain ⟨⟨y, yv⟩, hp⟩ : ∃ p, xs[k]? = some p := ⟨_, List.getElem?_eq_getElem hkl⟩
      have hy16 : y.pos + y.size ≤ 16384 := HX.out (y, yv) (List.mem_of_getElem? hp)
      obtain ⟨ya, yl, yc, hyv⟩ : ∃ a n c, yv = .slice a n c := by
        obtain ⟨a, c, h⟩ := txr_len (HR.out.wds (y, yv) (List.mem_of_getElem? hp))
        exact ⟨a, _, c, h⟩
      obtain ⟨g, hg⟩ : ∃ g, ia = some ⟨g, 0, none⟩ := by
        rcases HR.out.its.2 with ⟨h, h0⟩ | ⟨g, cap, cur, h, -⟩
        · omega
        · injection h with h1 _ _
          exact ⟨g, h1⟩
      subst hg hyv
      have HOW : w.ownsRow N 74 5 (.slice (some ⟨g, 0, none⟩) n ic) n (itC xs) := HNN.out ▸ HR.out.its
      obtain ⟨e0, e1, e2, e3, e4⟩ := itC_at xs k _ hp
      have z0 := cell_below HB.out.old ((HOW.cellAt (k * 5) (by omega)).trans e0)
      have z1 := cell_below HB.out.old ((HOW.cellAt (k * 5 + 1) (by omega)).trans e1)
      have z2 := cell_below HB.out.old ((HOW.cellAt (k * 5 + 2) (by omega)).trans e2)
      have z3 := cell_below HB.out.old ((HOW.cellAt (k * 5 + 3) (by omega)).trans e3)
      have z4 := cell_below HB.out.old ((HOW.cellAt (k * 5 + 4) (by omega)).trans e4)
      have HK := Lib.hid (fun (h : AS.lap pos sz y = false) => show ∀ j p, j < k + 1 → xs[j]? = some p → AS.lap pos sz p.1 = false from fun j p hj hq => by
        by_cases e : j = k
        · subst e; rw [hp] at hq; injection hq with hq; subst hq; exact h
        · exact hno.out j p (by omega) hq)
      have HV := Lib.hid (fun (h : AS.lap pos sz y = true) => show AS.ovl (AS.cov (xs.map (·.1))) pos sz = true from AS.lap_yes (y := y) (List.mem_map.2 ⟨(y, _), List.mem_of_getElem? hp, rfl⟩) h)
      obtain ⟨yp, hyp⟩ : ∃ p, y.pos = p := ⟨_, rfl⟩
      obtain ⟨ys, hys⟩ : ∃ p, y.size = p := ⟨_, rfl⟩
      simp only [hyp, hys] at z0 z1 z2 z3 z4 hy16
      have HLP := Lib.hid (show AS.lap pos sz y = (decide (0 < sz) && decide (0 < ys) && decide (pos < yp + ys) && decide (yp < pos + sz)) by unfold AS.lap; rw [hyp, hys])
      clear HOW e0 e1 e2 e3 e4 hp hkl hyp hys hno
      have hy16' : (yp : Int) + ys ≤ 16384 := by omega
      have HNEXT := Lib.hid (fun ob => HB.out.alloc ob)
      have pa0 := fun ob => cell_of (o := 0) (HNEXT.out ob).b0 rfl
      have pa1 := fun ob => cell_of (o := 1) (HNEXT.out ob).b0 rfl
      have pa2 := fun ob => cell_of (o := 2) (HNEXT.out ob).b0 rfl
      have qa3 := fun ob => cell_of (o := 3) (HNEXT.out ob).b1 rfl
      have ra0 := fun ob => cell_of (o := 0) (HNEXT.out ob).b2 rfl
      have ra1 := fun ob => cell_of (o := 1) (HNEXT.out ob).b2 rfl
      have ra2 := fun ob => cell_of (o := 2) (HNEXT.out ob).b2 rfl
      have rfa := fun ob o => unfrozen (o := o) (HNEXT.out ob).b2
      by_cases c1 : 0 < sz
      · have c1' : decide ((0 : Int) < sz) = true := by simp; omega
        by_cases c2 : 0 < ys
        · have c2' : decide ((0 : Int) < ys) = true := by simp; omega
          by_cases c3 : pos < yp + ys
          · have c3' : decide ((pos : Int) < yp + ys) = true := by simp; omega
            by_cases c4 : yp < pos + sz
            · have c4' : decide ((yp : Int) < pos + sz) = true := by simp; omega
              have HO := HV.out (by rw [HLP.out]; simp [c1, c2, c3, c4])
              have HE7 := Lib.hid (show E = 7 by rw [← HE.out, if_pos HO])
              clear HO
              go_wp2
              refine bodyPost_ret (v := .tuple #[.agg #[.slice (some ⟨g, 0, none⟩) n ic, .slice na ns.length nc, .int .i64 pos], .int .i64 7]) (by simp [results, Tryz.results99, go_sem, ra0, ra1, ra2]) rfl ?_
              rw [HE7.out]
              exact LyPost.bad (by decide) HN.out (below_set (below_set (below_set (HNEXT.out _).old (by omega) _) (by omega) _) (by omega) _)
            · have c4' : decide ((yp : Int) < pos + sz) = false := by simp; omega
              have HO := Lib.hid (HK.out (by rw [HLP.out]; simp [*]))
              go_wp2
              go_roundw
              case rel => exact ⟨k + 1, by omega, by go_num, Lib.hid (HNEXT.out _), HO⟩
              case measure => simp [intOf]; omega
          · have c3' : decide ((pos : Int) < yp + ys) = false := by simp; omega
            have HO := Lib.hid (HK.out (by rw [HLP.out]; simp [*]))
            go_wp2
            go_roundw
            case rel => exact ⟨k + 1, by omega, by go_num, Lib.hid (HNEXT.out _), HO⟩
            case measure => simp [intOf]; omega
        · have c2' : decide ((0 : Int) < ys) = false := by simp; omega
          have HO := Lib.hid (HK.out (by rw [HLP.out]; simp [*]))
          go_wp2
          go_roundw
          case rel => exact ⟨k + 1, by omega, by go_num, Lib.hid (HNEXT.out _), HO⟩
          case measure => simp [intOf]; omega
      · have c1' : decide ((0 : Int) < sz) = false := by simp; omega
        have HO := Lib.hid (HK.out (by rw [HLP.out]; simp [*]))
        go_wp2
        go_roundw
        case rel => exact ⟨k + 1, by omega, by go_num, Lib.hid (HNEXT.out _), HO⟩
        case measure => simp [intOf]; omega
    · have hlt' : decide (k < n) = false := by simpa using hlt
      have HE0 := Lib.hid (show E = 0 by
        rw [← HE.out, if_neg]
        rw [AS.lap_no fun y hy => ?_]
        · simp
        · obtain ⟨p, hp, rfl⟩ := List.mem_map.1 hy
          obtain ⟨i, hi⟩ := List.mem_iff_getElem?.1 hp
          exact hno.out i p (by have := (List.getElem?_eq_some_iff.1 hi).1; rw [HNN.out] at this; omega) hi)
      have H9 := Lib.hid (HB.out.at pos)
      clear hlt hno
      obtain ⟨W9, hW9⟩ : ∃ W9, wr.setCell ⟨w.heap.size + 1, 2, none⟩ (.int .i64 pos) = W9 := ⟨_, rfl⟩
      rw [hW9] at H9
      go_upto_region 10 with fail
      clear hW9 p0 p1 p2 q0 q1 q2 q3 q4 r0 r1 r2 pf qf rf
      have p0 := cell_of (o := 0) H9.out.b0 rfl
      have q0 := cell_of (o := 0) H9.out.b1 rfl
      have q1 := cell_of (o := 1) H9.out.b1 rfl
      have q2 := cell_of (o := 2) H9.out.b1 rfl
      have q3 := cell_of (o := 3) H9.out.b1 rfl
      have q4 := cell_of (o := 4) H9.out.b1 rfl
      have HOW := Lib.hid (fun o => show (W9.alloc o).ownsRow N 74 5 (.slice ia n ic) n (itC xs) from HNN.out ▸ ((HR.out.below H9.out.old).its.alloc o))
      have HNB := Lib.hid (show N ≤ W9.heap.size from Nat.le_trans HN.out H9.out.old.size)
      go_upto_region 11 with (at_builtin; refine wpList_append_lies _ rfl _ _ 68 rfl N 74 i74 (.agg #[.int .i64 0, .int .i64 0, .int .i64 0, .int .i64 0, .slice none 0 0]) 5 56 Tryz.underlying68 HI.out.1 HI.out.2.1 HI.out.2.2.1 HI.out.2.2.2 rfl (by decide) _ n (itC xs) rfl (HOW.out _) ⟨_, 0, none⟩ 1 1 [.int .i64 kd, .int .i64 ln, .int .i64 pos, .int .i64 sz, .slice wa wl wc] rfl rfl (five_new _ _ _ _ _ _ _ _ rfl) (five_one _ _ _ _ _ _ _) (by decide) (by unfold maxLen; omega) (by omega) (by have := HNB.out; simp; omega) _ rfl ?_)
      intro g' cap' w3 ho3 hg3 hv3 hl3
      obtain ⟨y0, y2, y1, y3⟩ := H9.out.item (words := words) (HNN.out ▸ HR.out) HN.out HW.out hg3 (by rw [HNN.out]; exact ho3)
      have HY := Lib.hid y3
      have p0 := cell_of (o := 0) y0 rfl
      have p1 := cell_of (o := 1) y0 rfl
      have p2 := cell_of (o := 2) y0 rfl
      have pf := fun o => unfrozen (o := o) y0
      have q3 := cell_of (o := 3) y1 rfl
      have r0 := cell_of (o := 0) y2 rfl
      have r1 := cell_of (o := 1) y2 rfl
      have r2 := cell_of (o := 2) y2 rfl
      have rf := fun o => unfrozen (o := o) y2
      clear y0 y1 y2 y3 ho3 hg3 hv3 hl3
      go_wp2
      refine bodyPost_ret (v := .tuple #[.agg #[.slice (some ⟨g', 0, none⟩) (n + 1) cap', .slice na ns.length nc, .int .i64 (pos + sz)], .int .i64 0]) (by simp [results, Tryz.results99, go_sem, r0, r1, r2]) rfl ?_
      exact LyPost.ok HE0.out (by omega) HY.out.set.set.swap.set.set.set
set_option maxHeartbeats 8000000 in
theorem lay_1 {N : Nat} {w : World} {vi vn wv : Value} {xs : List (AS.It × Value)} {ns : List (List UInt8 × Nat)} {words : List (List UInt8)} {pos : Nat} (kd ln a0 sz : Nat) (hN : N ≤ w.heap.size) (hr : RS N w vi vn xs ns) (hw : TxR w wv words) (hx : ∀ p ∈ xs, p.1.pos + p.1.size ≤ 16384) (hl : xs.length ≤ 100000) (hk1 : ((kd : Int) == 1) = true) (h4 : pos % 4 = 0) (h16 : pos + sz ≤ 16384) :
    Calls Tryz.prog 99 #[.agg #[vi, vn, .int .i64 pos], .agg #[.int .i64 kd, .int .i64 ln, .int .i64 a0, .int .i64 sz, wv]] w (LyPost N w (if AS.ovl (AS.cov (xs.map (·.1))) pos sz = true then 7 else 0) (xs ++ [(⟨kd, ln, pos, sz, words⟩, wv)]) ns (pos + sz)) := by
  obtain ⟨i74, HI⟩ := info_parts item_info
  have HI := Lib.hid HI
  obtain ⟨ia, ic, rfl⟩ := own_form hr.its
  obtain ⟨na, nc, rfl⟩ := own_form hr.nms
  obtain ⟨wl, hwl⟩ : ∃ n, words.length = n := ⟨_, rfl⟩
  obtain ⟨wa, wc, rfl⟩ : ∃ a c, wv = .slice a wl c := by
    obtain ⟨a, c, h⟩ := txr_len hw
    exact ⟨a, c, by rw [h, hwl]⟩
  obtain ⟨n, hn⟩ : ∃ n, xs.length = n := ⟨_, rfl⟩
  have HS := Lib.hid (YB.start w (.slice ia xs.length ic) (.slice na ns.length nc) (.slice wa wl wc) kd ln a0 sz pos)
  have HR := Lib.hid hr
  have HW := Lib.hid hw
  have HX := Lib.hid hx
  have HN := Lib.hid hN
  have HNN := Lib.hid hn
  have hn1 : n ≤ 100000 := by omega
  have h16' : (pos : Int) + sz ≤ 16384 := by omega
  have h16'' : decide (16384 < (pos : Int) + sz) = false := by simp; omega
  have h4a : ((pos : Int) % 4 == 0) = true := by simp; omega
  have h4b : ((pos : Int) % 4 != 0) = false := by simp; omega
  clear h4
  clear hr hw hx hl hwl hN h16
  rw [hn] at HS ⊢
  clear hn
  obtain ⟨E, hE⟩ : ∃ E : Int, (if AS.ovl (AS.cov (xs.map (·.1))) pos sz = true then 7 else 0) = E := ⟨_, rfl⟩
  rw [hE]
  have HE := Lib.hid hE
  clear hE
  go_enter Tryz.func99, Tryz.ntmps99
  go_wp2
  go_loopw [6] (fun i wr => ∃ k : Nat, k ≤ n ∧ i = .int .i64 k ∧ Hid (YB w wr (.slice ia n ic) (.slice na ns.length nc) (.slice wa wl wc) kd ln a0 sz pos) ∧ Hid (∀ j p, j < k → xs[j]? = some p → AS.lap pos sz p.1 = false)) (fun i _ => n - (intOf i).toNat)
  case atStart => exact ⟨0, by omega, rfl, HS, Lib.hid fun j p hj => absurd hj (by omega)⟩
  case round =>
    obtain ⟨k, hk, rfl, HB, hno⟩ := hrel
    clear HS
    have p0 := cell_of (o := 0) HB.out.b0 rfl
    have p1 := cell_of (o := 1) HB.out.b0 rfl
    have p2 := cell_of (o := 2) HB.out.b0 rfl
    have q0 := cell_of (o := 0) HB.out.b1 rfl
    have q1 := cell_of (o := 1) HB.out.b1 rfl
    have q2 := cell_of (o := 2) HB.out.b1 rfl
    have q3 := cell_of (o := 3) HB.out.b1 rfl
    have q4 := cell_of (o := 4) HB.out.b1 rfl
    have r0 := cell_of (o := 0) HB.out.b2 rfl
    have r1 := cell_of (o := 1) HB.out.b2 rfl
    have r2 := cell_of (o := 2) HB.out.b2 rfl
    have pf := fun o => unfrozen (o := o) HB.out.b0
    have qf := fun o => unfrozen (o := o) HB.out.b1
    have rf := fun o => unfrozen (o := o) HB.out.b2
    by_cases hlt : k < n
    · have hlt' : decide (k < n) = true := by simpa using hlt
      have hkl : k < xs.length := by rw [HNN.out]; exact hlt
      obtain ⟨⟨y, yv⟩, hp⟩ : ∃ p, xs[k]? = some p := ⟨_, List.getElem?_eq_getElem hkl⟩
      have hy16 : y.pos + y.size ≤ 16384 := HX.out (y, yv) (List.mem_of_getElem? hp)
      obtain ⟨ya, yl, yc, hyv⟩ : ∃ a n c, yv = .slice a n c := by
        obtain ⟨a, c, h⟩ := txr_len (HR.out.wds (y, yv) (List.mem_of_getElem? hp))
        exact ⟨a, _, c, h⟩
      obtain ⟨g, hg⟩ : ∃ g, ia = some ⟨g, 0, none⟩ := by
        rcases HR.out.its.2 with ⟨h, h0⟩ | ⟨g, cap, cur, h, -⟩
        · omega
        · injection h with h1 _ _
          exact ⟨g, h1⟩
      subst hg hyv
      have HOW : w.ownsRow N 74 5 (.slice (some ⟨g, 0, none⟩) n ic) n (itC xs) := HNN.out ▸ HR.out.its
      obtain ⟨e0, e1, e2, e3, e4⟩ := itC_at xs k _ hp
      have z0 := cell_below HB.out.old ((HOW.cellAt (k * 5) (by omega)).trans e0)
      have z1 := cell_below HB.out.old ((HOW.cellAt (k * 5 + 1) (by omega)).trans e1)
      have z2 := cell_below HB.out.old ((HOW.cellAt (k * 5 + 2) (by omega)).trans e2)
      have z3 := cell_below HB.out.old ((HOW.cellAt (k * 5 + 3) (by omega)).trans e3)
      have z4 := cell_below HB.out.old ((HOW.cellAt (k * 5 + 4) (by omega)).trans e4)
      have HK := Lib.hid (fun (h : AS.lap pos sz y = false) => show ∀ j p, j < k + 1 → xs[j]? = some p → AS.lap pos sz p.1 = false from fun j p hj hq => by
        by_cases e : j = k
        · subst e; rw [hp] at hq; injection hq with hq; subst hq; exact h
        · exact hno.out j p (by omega) hq)
      have HV := Lib.hid (fun (h : AS.lap pos sz y = true) => show AS.ovl (AS.cov (xs.map (·.1))) pos sz = true from AS.lap_yes (y := y) (List.mem_map.2 ⟨(y, _), List.mem_of_getElem? hp, rfl⟩) h)
      obtain ⟨yp, hyp⟩ : ∃ p, y.pos = p := ⟨_, rfl⟩
      obtain ⟨ys, hys⟩ : ∃ p, y.size = p := ⟨_, rfl⟩
      simp only [hyp, hys] at z0 z1 z2 z3 z4 hy16
      have HLP := Lib.hid (show AS.lap pos sz y = (decide (0 < sz) && decide (0 < ys) && decide (pos < yp + ys) && decide (yp < pos + sz)) by unfold AS.lap; rw [hyp, hys])
      clear HOW e0 e1 e2 e3 e4 hp hkl hyp hys hno
      have hy16' : (yp : Int) + ys ≤ 16384 := by omega
      have HNEXT := Lib.hid (fun ob => HB.out.alloc ob)
      have pa0 := fun ob => cell_of (o := 0) (HNEXT.out ob).b0 rfl
      have pa1 := fun ob => cell_of (o := 1) (HNEXT.out ob).b0 rfl
      have pa2 := fun ob => cell_of (o := 2) (HNEXT.out ob).b0 rfl
      have qa3 := fun ob => cell_of (o := 3) (HNEXT.out ob).b1 rfl
      have ra0 := fun ob => cell_of (o := 0) (HNEXT.out ob).b2 rfl
      have ra1 := fun ob => cell_of (o := 1) (HNEXT.out ob).b2 rfl
      have ra2 := fun ob => cell_of (o := 2) (HNEXT.out ob).b2 rfl
      have rfa := fun ob o => unfrozen (o := o) (HNEXT.out ob).b2
      by_cases c1 : 0 < sz
      · have c1' : decide ((0 : Int) < sz) = true := by simp; omega
        by_cases c2 : 0 < ys
        · have c2' : decide ((0 : Int) < ys) = true := by simp; omega
          by_cases c3 : pos < yp + ys
          · have c3' : decide ((pos : Int) < yp + ys) = true := by simp; omega
            by_cases c4 : yp < pos + sz
            · have c4' : decide ((yp : Int) < pos + sz) = true := by simp; omega
              have HO := HV.out (by rw [HLP.out]; simp [c1, c2, c3, c4])
              have HE7 := Lib.hid (show E = 7 by rw [← HE.out, if_pos HO])
              clear HO
              go_wp2
              refine bodyPost_ret (v := .tuple #[.agg #[.slice (some ⟨g, 0, none⟩) n ic, .slice na ns.length nc, .int .i64 pos], .int .i64 7]) (by simp [results, Tryz.results99, go_sem, ra0, ra1, ra2]) rfl ?_
              rw [HE7.out]
              exact LyPost.bad (by decide) HN.out (below_set (below_set (below_set (HNEXT.out _).old (by omega) _) (by omega) _) (by omega) _)
            · have c4' : decide ((yp : Int) < pos + sz) = false := by simp; omega
              have HO := Lib.hid (HK.out (by rw [HLP.out]; simp [*]))
              go_wp2
              go_roundw
              case rel => exact ⟨k + 1, by omega, by go_num, Lib.hid (HNEXT.out _), HO⟩
              case measure => simp [intOf]; omega
          · have c3' : decide ((pos : Int) < yp + ys) = false := by simp; omega
            have HO := Lib.hid (HK.out (by rw [HLP.out]; simp [*]))
            go_wp2
            go_roundw
            case rel => exact ⟨k + 1, by omega, by go_num, Lib.hid (HNEXT.out _), HO⟩
            case measure => simp [intOf]; omega
        · have c2' : decide ((0 : Int) < ys) = false := by simp; omega
          have HO := Lib.hid (HK.out (by rw [HLP.out]; simp [*]))
          go_wp2
          go_roundw
          case rel => exact ⟨k + 1, by omega, by go_num, Lib.hid (HNEXT.out _), HO⟩
          case measure => simp [intOf]; omega
      · have c1' : decide ((0 : Int) < sz) = false := by simp; omega
        have HO := Lib.hid (HK.out (by rw [HLP.out]; simp [*]))
        go_wp2
        go_roundw
        case rel => exact ⟨k + 1, by omega, by go_num, Lib.hid (HNEXT.out _), HO⟩
        case measure => simp [intOf]; omega
    · have hlt' : decide (k < n) = false := by simpa using hlt
      have HE0 := Lib.hid (show E = 0 by
        rw [← HE.out, if_neg]
        rw [AS.lap_no fun y hy => ?_]
        · simp
        · obtain ⟨p, hp, rfl⟩ := List.mem_map.1 hy
          obtain ⟨i, hi⟩ := List.mem_iff_getElem?.1 hp
          exact hno.out i p (by have := (List.getElem?_eq_some_iff.1 hi).1; rw [HNN.out] at this; omega) hi)
      have H9 := Lib.hid (HB.out.at pos)
      clear hlt hno
      obtain ⟨W9, hW9⟩ : ∃ W9, wr.setCell ⟨w.heap.size + 1, 2, none⟩ (.int .i64 pos) = W9 := ⟨_, rfl⟩
      rw [hW9] at H9
      go_upto_region 10 with fail
      clear hW9 p0 p1 p2 q0 q1 q2 q3 q4 r0 r1 r2 pf qf rf
      have p0 := cell_of (o := 0) H9.out.b0 rfl
      have q0 := cell_of (o := 0) H9.out.b1 rfl
      have q1 := cell_of (o := 1) H9.out.b1 rfl
      have q2 := cell_of (o := 2) H9.out.b1 rfl
      have q3 := cell_of (o := 3) H9.out.b1 rfl
      have q4 := cell_of (o := 4) H9.out.b1 rfl
      have HOW := Lib.hid (fun o => show (W9.alloc o).ownsRow N 74 5 (.slice ia n ic) n (itC xs) from HNN.out ▸ ((HR.out.below H9.out.old).its.alloc o))
      have HNB := Lib.hid (show N ≤ W9.heap.size from Nat.le_trans HN.out H9.out.old.size)
      go_upto_region 11 with (at_builtin; refine wpList_append_lies _ rfl _ _ 68 rfl N 74 i74 (.agg #[.int .i64 0, .int .i64 0, .int .i64 0, .int .i64 0, .slice none 0 0]) 5 56 Tryz.underlying68 HI.out.1 HI.out.2.1 HI.out.2.2.1 HI.out.2.2.2 rfl (by decide) _ n (itC xs) rfl (HOW.out _) ⟨_, 0, none⟩ 1 1 [.int .i64 kd, .int .i64 ln, .int .i64 pos, .int .i64 sz, .slice wa wl wc] rfl rfl (five_new _ _ _ _ _ _ _ _ rfl) (five_one _ _ _ _ _ _ _) (by decide) (by unfold maxLen; omega) (by omega) (by have := HNB.out; simp; omega) _ rfl ?_)
      intro g' cap' w3 ho3 hg3 hv3 hl3
      obtain ⟨y0, y2, y1, y3⟩ := H9.out.item (words := words) (HNN.out ▸ HR.out) HN.out HW.out hg3 (by rw [HNN.out]; exact ho3)
      have HY := Lib.hid y3
      have p0 := cell_of (o := 0) y0 rfl
      have p1 := cell_of (o := 1) y0 rfl
      have p2 := cell_of (o := 2) y0 rfl
      have pf := fun o => unfrozen (o := o) y0
      have q3 := cell_of (o := 3) y1 rfl
      have r0 := cell_of (o := 0) y2 rfl
      have r1 := cell_of (o := 1) y2 rfl
      have r2 := cell_of (o := 2) y2 rfl
      have rf := fun o => unfrozen (o := o) y2
      clear y0 y1 y2 y3 ho3 hg3 hv3 hl3
      go_wp2
      refine bodyPost_ret (v := .tuple #[.agg #[.slice (some ⟨g', 0, none⟩) (n + 1) cap', .slice na ns.length nc, .int .i64 (pos + sz)], .int .i64 0]) (by simp [results, Tryz.results99, go_sem, r0, r1, r2]) rfl ?_
      exact LyPost.ok HE0.out (by omega) HY.out.set.set.swap.set.set.set
set_option maxHeartbeats 8000000 in
theorem lay_2 {N : Nat} {w : World} {vi vn wv : Value} {xs : List (AS.It × Value)} {ns : List (List UInt8 × Nat)} {words : List (List UInt8)} {pos : Nat} (kd ln a0 sz : Nat) (hN : N ≤ w.heap.size) (hr : RS N w vi vn xs ns) (hw : TxR w wv words) (hx : ∀ p ∈ xs, p.1.pos + p.1.size ≤ 16384) (hl : xs.length ≤ 100000) (hk1 : ((kd : Int) == 1) = false) (hk2 : ((kd : Int) == 2) = true) (h4 : pos % 4 = 0) (h16 : pos + sz ≤ 16384) :
    Calls Tryz.prog 99 #[.agg #[vi, vn, .int .i64 pos], .agg #[.int .i64 kd, .int .i64 ln, .int .i64 a0, .int .i64 sz, wv]] w (LyPost N w (if AS.ovl (AS.cov (xs.map (·.1))) pos sz = true then 7 else 0) (xs ++ [(⟨kd, ln, pos, sz, words⟩, wv)]) ns (pos + sz)) := by
  obtain ⟨i74, HI⟩ := info_parts item_info
  have HI := Lib.hid HI
  obtain ⟨ia, ic, rfl⟩ := own_form hr.its
  obtain ⟨na, nc, rfl⟩ := own_form hr.nms
  obtain ⟨wl, hwl⟩ : ∃ n, words.length = n := ⟨_, rfl⟩
  obtain ⟨wa, wc, rfl⟩ : ∃ a c, wv = .slice a wl c := by
    obtain ⟨a, c, h⟩ := txr_len hw
    exact ⟨a, c, by rw [h, hwl]⟩
  obtain ⟨n, hn⟩ : ∃ n, xs.length = n := ⟨_, rfl⟩
  have HS := Lib.hid (YB.start w (.slice ia xs.length ic) (.slice na ns.length nc) (.slice wa wl wc) kd ln a0 sz pos)
  have HR := Lib.hid hr
  have HW := Lib.hid hw
  have HX := Lib.hid hx
  have HN := Lib.hid hN
  have HNN := Lib.hid hn
  have hn1 : n ≤ 100000 := by omega
  have h16' : (pos : Int) + sz ≤ 16384 := by omega
  have h16'' : decide (16384 < (pos : Int) + sz) = false := by simp; omega
  have h4a : ((pos : Int) % 4 == 0) = true := by simp; omega
  have h4b : ((pos : Int) % 4 != 0) = false := by simp; omega
  clear h4
  clear hr hw hx hl hwl hN h16
  rw [hn] at HS ⊢
  clear hn
  obtain ⟨E, hE⟩ : ∃ E : Int, (if AS.ovl (AS.cov (xs.map (·.1))) pos sz = true then 7 else 0) = E := ⟨_, rfl⟩
  rw [hE]
  have HE := Lib.hid hE
  clear hE
  go_enter Tryz.func99, Tryz.ntmps99
  go_wp2
  go_loopw [6] (fun i wr => ∃ k : Nat, k ≤ n ∧ i = .int .i64 k ∧ Hid (YB w wr (.slice ia n ic) (.slice na ns.length nc) (.slice wa wl wc) kd ln a0 sz pos) ∧ Hid (∀ j p, j < k → xs[j]? = some p → AS.lap pos sz p.1 = false)) (fun i _ => n - (intOf i).toNat)
  case atStart => exact ⟨0, by omega, rfl, HS, Lib.hid fun j p hj => absurd hj (by omega)⟩
  case round =>
    obtain ⟨k, hk, rfl, HB, hno⟩ := hrel
    clear HS
    have p0 := cell_of (o := 0) HB.out.b0 rfl
    have p1 := cell_of (o := 1) HB.out.b0 rfl
    have p2 := cell_of (o := 2) HB.out.b0 rfl
    have q0 := cell_of (o := 0) HB.out.b1 rfl
    have q1 := cell_of (o := 1) HB.out.b1 rfl
    have q2 := cell_of (o := 2) HB.out.b1 rfl
    have q3 := cell_of (o := 3) HB.out.b1 rfl
    have q4 := cell_of (o := 4) HB.out.b1 rfl
    have r0 := cell_of (o := 0) HB.out.b2 rfl
    have r1 := cell_of (o := 1) HB.out.b2 rfl
    have r2 := cell_of (o := 2) HB.out.b2 rfl
    have pf := fun o => unfrozen (o := o) HB.out.b0
    have qf := fun o => unfrozen (o := o) HB.out.b1
    have rf := fun o => unfrozen (o := o) HB.out.b2
    by_cases hlt : k < n
    · have hlt' : decide (k < n) = true := by simpa using hlt
      have hkl : k < xs.length := by rw [HNN.out]; exact hlt
      obtain ⟨⟨y, yv⟩, hp⟩ : ∃ p, xs[k]? = some p := ⟨_, List.getElem?_eq_getElem hkl⟩
      have hy16 : y.pos + y.size ≤ 16384 := HX.out (y, yv) (List.mem_of_getElem? hp)
      obtain ⟨ya, yl, yc, hyv⟩ : ∃ a n c, yv = .slice a n c := by
        obtain ⟨a, c, h⟩ := txr_len (HR.out.wds (y, yv) (List.mem_of_getElem? hp))
        exact ⟨a, _, c, h⟩
      obtain ⟨g, hg⟩ : ∃ g, ia = some ⟨g, 0, none⟩ := by
        rcases HR.out.its.2 with ⟨h, h0⟩ | ⟨g, cap, cur, h, -⟩
        · omega
        · injection h with h1 _ _
          exact ⟨g, h1⟩
      subst hg hyv
      have HOW : w.ownsRow N 74 5 (.slice (some ⟨g, 0, none⟩) n ic) n (itC xs) := HNN.out ▸ HR.out.its
      obtain ⟨e0, e1, e2, e3, e4⟩ := itC_at xs k _ hp
      have z0 := cell_below HB.out.old ((HOW.cellAt (k * 5) (by omega)).trans e0)
      have z1 := cell_below HB.out.old ((HOW.cellAt (k * 5 + 1) (by omega)).trans e1)
      have z2 := cell_below HB.out.old ((HOW.cellAt (k * 5 + 2) (by omega)).trans e2)
      have z3 := cell_below HB.out.old ((HOW.cellAt (k * 5 + 3) (by omega)).trans e3)
      have z4 := cell_below HB.out.old ((HOW.cellAt (k * 5 + 4) (by omega)).trans e4)
      have HK := Lib.hid (fun (h : AS.lap pos sz y = false) => show ∀ j p, j < k + 1 → xs[j]? = some p → AS.lap pos sz p.1 = false from fun j p hj hq => by
        by_cases e : j = k
        · subst e; rw [hp] at hq; injection hq with hq; subst hq; exact h
        · exact hno.out j p (by omega) hq)
      have HV := Lib.hid (fun (h : AS.lap pos sz y = true) => show AS.ovl (AS.cov (xs.map (·.1))) pos sz = true from AS.lap_yes (y := y) (List.mem_map.2 ⟨(y, _), List.mem_of_getElem? hp, rfl⟩) h)
      obtain ⟨yp, hyp⟩ : ∃ p, y.pos = p := ⟨_, rfl⟩
      obtain ⟨ys, hys⟩ : ∃ p, y.size = p := ⟨_, rfl⟩
      simp only [hyp, hys] at z0 z1 z2 z3 z4 hy16
      have HLP := Lib.hid (show AS.lap pos sz y = (decide (0 < sz) && decide (0 < ys) && decide (pos < yp + ys) && decide (yp < pos + sz)) by unfold AS.lap; rw [hyp, hys])
      clear HOW e0 e1 e2 e3 e4 hp hkl hyp hys hno
      have hy16' : (yp : Int) + ys ≤ 16384 := by omega
      have HNEXT := Lib.hid (fun ob => HB.out.alloc ob)
      have pa0 := fun ob => cell_of (o := 0) (HNEXT.out ob).b0 rfl
      have pa1 := fun ob => cell_of (o := 1) (HNEXT.out ob).b0 rfl
      have pa2 := fun ob => cell_of (o := 2) (HNEXT.out ob).b0 rfl
      have qa3 := fun ob => cell_of (o := 3) (HNEXT.out ob).b1 rfl
      have ra0 := fun ob => cell_of (o := 0) (HNEXT.out ob).b2 rfl
      have ra1 := fun ob => cell_of (o := 1) (HNEXT.out ob).b2 rfl
      have ra2 := fun ob => cell_of (o := 2) (HNEXT.out ob).b2 rfl
      have rfa := fun ob o => unfrozen (o := o) (HNEXT.out ob).b2
      by_cases c1 : 0 < sz
      · have c1' : decide ((0 : Int) < sz) = true := by simp; omega
        by_cases c2 : 0 < ys
        · have c2' : decide ((0 : Int) < ys) = true := by simp; omega
          by_cases c3 : pos < yp + ys
          · have c3' : decide ((pos : Int) < yp + ys) = true := by simp; omega
            by_cases c4 : yp < pos + sz
            · have c4' : decide ((yp : Int) < pos + sz) = true := by simp; omega
              have HO := HV.out (by rw [HLP.out]; simp [c1, c2, c3, c4])
              have HE7 := Lib.hid (show E = 7 by rw [← HE.out, if_pos HO])
              clear HO
              go_wp2
              refine bodyPost_ret (v := .tuple #[.agg #[.slice (some ⟨g, 0, none⟩) n ic, .slice na ns.length nc, .int .i64 pos], .int .i64 7]) (by simp [results, Tryz.results99, go_sem, ra0, ra1, ra2]) rfl ?_
              rw [HE7.out]
              exact LyPost.bad (by decide) HN.out (below_set (below_set (below_set (HNEXT.out _).old (by omega) _) (by omega) _) (by omega) _)
            · have c4' : decide ((yp : Int) < pos + sz) = false := by simp; omega
              have HO := Lib.hid (HK.out (by rw [HLP.out]; simp [*]))
              go_wp2
              go_roundw
              case rel => exact ⟨k + 1, by omega, by go_num, Lib.hid (HNEXT.out _), HO⟩
              case measure => simp [intOf]; omega
          · have c3' : decide ((pos : Int) < yp + ys) = false := by simp; omega
            have HO := Lib.hid (HK.out (by rw [HLP.out]; simp [*]))
            go_wp2
            go_roundw
            case rel => exact ⟨k + 1, by omega, by go_num, Lib.hid (HNEXT.out _), HO⟩
            case measure => simp [intOf]; omega
        · have c2' : decide ((0 : Int) < ys) = false := by simp; omega
          have HO := Lib.hid (HK.out (by rw [HLP.out]; simp [*]))
          go_wp2
          go_roundw
          case rel => exact ⟨k + 1, by omega, by go_num, Lib.hid (HNEXT.out _), HO⟩
          case measure => simp [intOf]; omega
      · have c1' : decide ((0 : Int) < sz) = false := by simp; omega
        have HO := Lib.hid (HK.out (by rw [HLP.out]; simp [*]))
        go_wp2
        go_roundw
        case rel => exact ⟨k + 1, by omega, by go_num, Lib.hid (HNEXT.out _), HO⟩
        case measure => simp [intOf]; omega
    · have hlt' : decide (k < n) = false := by simpa using hlt
      have HE0 := Lib.hid (show E = 0 by
        rw [← HE.out, if_neg]
        rw [AS.lap_no fun y hy => ?_]
        · simp
        · obtain ⟨p, hp, rfl⟩ := List.mem_map.1 hy
          obtain ⟨i, hi⟩ := List.mem_iff_getElem?.1 hp
          exact hno.out i p (by have := (List.getElem?_eq_some_iff.1 hi).1; rw [HNN.out] at this; omega) hi)
      have H9 := Lib.hid (HB.out.at pos)
      clear hlt hno
      obtain ⟨W9, hW9⟩ : ∃ W9, wr.setCell ⟨w.heap.size + 1, 2, none⟩ (.int .i64 pos) = W9 := ⟨_, rfl⟩
      rw [hW9] at H9
      go_upto_region 10 with fail
      clear hW9 p0 p1 p2 q0 q1 q2 q3 q4 r0 r1 r2 pf qf rf
      have p0 := cell_of (o := 0) H9.out.b0 rfl
      have q0 := cell_of (o := 0) H9.out.b1 rfl
      have q1 := cell_of (o := 1) H9.out.b1 rfl
      have q2 := cell_of (o := 2) H9.out.b1 rfl
      have q3 := cell_of (o := 3) H9.out.b1 rfl
      have q4 := cell_of (o := 4) H9.out.b1 rfl
      have HOW := Lib.hid (fun o => show (W9.alloc o).ownsRow N 74 5 (.slice ia n ic) n (itC xs) from HNN.out ▸ ((HR.out.below H9.out.old).its.alloc o))
      have HNB := Lib.hid (show N ≤ W9.heap.size from Nat.le_trans HN.out H9.out.old.size)
      go_upto_region 11 with (at_builtin; refine wpList_append_lies _ rfl _ _ 68 rfl N 74 i74 (.agg #[.int .i64 0, .int .i64 0, .int .i64 0, .int .i64 0, .slice none 0 0]) 5 56 Tryz.underlying68 HI.out.1 HI.out.2.1 HI.out.2.2.1 HI.out.2.2.2 rfl (by decide) _ n (itC xs) rfl (HOW.out _) ⟨_, 0, none⟩ 1 1 [.int .i64 kd, .int .i64 ln, .int .i64 pos, .int .i64 sz, .slice wa wl wc] rfl rfl (five_new _ _ _ _ _ _ _ _ rfl) (five_one _ _ _ _ _ _ _) (by decide) (by unfold maxLen; omega) (by omega) (by have := HNB.out; simp; omega) _ rfl ?_)
      intro g' cap' w3 ho3 hg3 hv3 hl3
      obtain ⟨y0, y2, y1, y3⟩ := H9.out.item (words := words) (HNN.out ▸ HR.out) HN.out HW.out hg3 (by rw [HNN.out]; exact ho3)
      have HY := Lib.hid y3
      have p0 := cell_of (o := 0) y0 rfl
      have p1 := cell_of (o := 1) y0 rfl
      have p2 := cell_of (o := 2) y0 rfl
      have pf := fun o => unfrozen (o := o) y0
      have q3 := cell_of (o := 3) y1 rfl
      have r0 := cell_of (o := 0) y2 rfl
      have r1 := cell_of (o := 1) y2 rfl
      have r2 := cell_of (o := 2) y2 rfl
      have rf := fun o => unfrozen (o := o) y2
      clear y0 y1 y2 y3 ho3 hg3 hv3 hl3
      go_wp2
      refine bodyPost_ret (v := .tuple #[.agg #[.slice (some ⟨g', 0, none⟩) (n + 1) cap', .slice na ns.length nc, .int .i64 (pos + sz)], .int .i64 0]) (by simp [results, Tryz.results99, go_sem, r0, r1, r2]) rfl ?_
      exact LyPost.ok HE0.out (by omega) HY.out.set.set.swap.set.set.set
set_option maxHeartbeats 1600000 in
theorem lay_no3 {N : Nat} {w : World} {ia na wa : Option Addr} {n ic m nc wl wc : Nat} {xs : List (AS.It × Value)} {ns : List (List UInt8 × Nat)} {pos P' : Nat} (kd ln a0 sz : Nat) (hN : N ≤ w.heap.size) (hp : pos ≤ 16384) (hs : sz ≤ 1000000) (hk1 : ((kd : Int) == 1) = false) (hk2 : ((kd : Int) == 2) = false) (h : 16384 < pos + sz) :
    Calls Tryz.prog 99 #[.agg #[.slice ia n ic, .slice na m nc, .int .i64 pos], .agg #[.int .i64 kd, .int .i64 ln, .int .i64 a0, .int .i64 sz, .slice wa wl wc]] w (LyPost N w 3 xs ns P') := by
  have HN := Lib.hid hN
  have HB := Lib.hid (YB.start w (.slice ia n ic) (.slice na m nc) (.slice wa wl wc) kd ln a0 sz pos)
  have h16 : (16384 : Int) < (pos : Int) + sz := by omega
  clear h
  clear hN
  go_enter Tryz.func99, Tryz.ntmps99
  go_wp2
  refine bodyPost_ret (v := .tuple #[.agg #[.slice ia n ic, .slice na m nc, .int .i64 pos], .int .i64 3]) (by simp [results, Tryz.results99, go_sem]) rfl ?_
  exact LyPost.bad (by decide) HN.out (by first | exact below_set (below_set (below_set HB.out.old (by omega) _) (by omega) _) (by omega) _ | exact (three_new w _ _ _).2.2.2)
set_option maxHeartbeats 1600000 in
theorem lay_no1a {N : Nat} {w : World} {ia na wa : Option Addr} {n ic m nc wl wc : Nat} {xs : List (AS.It × Value)} {ns : List (List UInt8 × Nat)} {pos P' : Nat} (kd ln a0 sz : Nat) (hN : N ≤ w.heap.size) (hp : pos ≤ 16384) (_hs : sz ≤ 1000000) (hk1 : ((kd : Int) == 1) = true) (h4 : ¬ pos % 4 = 0) :
    Calls Tryz.prog 99 #[.agg #[.slice ia n ic, .slice na m nc, .int .i64 pos], .agg #[.int .i64 kd, .int .i64 ln, .int .i64 a0, .int .i64 sz, .slice wa wl wc]] w (LyPost N w 3 xs ns P') := by
  have HN := Lib.hid hN
  have HB := Lib.hid (YB.start w (.slice ia n ic) (.slice na m nc) (.slice wa wl wc) kd ln a0 sz pos)
  have h4a : ((pos : Int) % 4 == 0) = false := by simp; omega
  have h4b : ((pos : Int) % 4 != 0) = true := by simp; omega
  have h4c : ¬ (pos : Int) % 4 = 0 := by omega
  clear h4
  clear hN
  go_enter Tryz.func99, Tryz.ntmps99
  go_wp2
  refine bodyPost_ret (v := .tuple #[.agg #[.slice ia n ic, .slice na m nc, .int .i64 pos], .int .i64 3]) (by simp [results, Tryz.results99, go_sem]) rfl ?_
  exact LyPost.bad (by decide) HN.out (by first | exact below_set (below_set (below_set HB.out.old (by omega) _) (by omega) _) (by omega) _ | exact (three_new w _ _ _).2.2.2)
set_option maxHeartbeats 1600000 in
theorem lay_no1b {N : Nat} {w : World} {ia na wa : Option Addr} {n ic m nc wl wc : Nat} {xs : List (AS.It × Value)} {ns : List (List UInt8 × Nat)} {pos P' : Nat} (kd ln a0 sz : Nat) (hN : N ≤ w.heap.size) (hp : pos ≤ 16384) (hs : sz ≤ 1000000) (hk1 : ((kd : Int) == 1) = true) (h4 : pos % 4 = 0) (h : 16384 < pos + sz) :
    Calls Tryz.prog 99 #[.agg #[.slice ia n ic, .slice na m nc, .int .i64 pos], .agg #[.int .i64 kd, .int .i64 ln, .int .i64 a0, .int .i64 sz, .slice wa wl wc]] w (LyPost N w 3 xs ns P') := by
  have HN := Lib.hid hN
  have HB := Lib.hid (YB.start w (.slice ia n ic) (.slice na m nc) (.slice wa wl wc) kd ln a0 sz pos)
  have h4a : ((pos : Int) % 4 == 0) = true := by simp; omega
  have h4b : ((pos : Int) % 4 != 0) = false := by simp; omega
  clear h4
  have h16 : (16384 : Int) < (pos : Int) + sz := by omega
  clear h
  clear hN
  go_enter Tryz.func99, Tryz.ntmps99
  go_wp2
  refine bodyPost_ret (v := .tuple #[.agg #[.slice ia n ic, .slice na m nc, .int .i64 pos], .int .i64 3]) (by simp [results, Tryz.results99, go_sem]) rfl ?_
  exact LyPost.bad (by decide) HN.out (by first | exact below_set (below_set (below_set HB.out.old (by omega) _) (by omega) _) (by omega) _ | exact (three_new w _ _ _).2.2.2)
set_option maxHeartbeats 1600000 in
theorem lay_no2a {N : Nat} {w : World} {ia na wa : Option Addr} {n ic m nc wl wc : Nat} {xs : List (AS.It × Value)} {ns : List (List UInt8 × Nat)} {pos P' : Nat} (kd ln a0 sz : Nat) (hN : N ≤ w.heap.size) (hp : pos ≤ 16384) (_hs : sz ≤ 1000000) (hk1 : ((kd : Int) == 1) = false) (hk2 : ((kd : Int) == 2) = true) (h4 : ¬ pos % 4 = 0) :
    Calls Tryz.prog 99 #[.agg #[.slice ia n ic, .slice na m nc, .int .i64 pos], .agg #[.int .i64 kd, .int .i64 ln, .int .i64 a0, .int .i64 sz, .slice wa wl wc]] w (LyPost N w 3 xs ns P') := by
  have HN := Lib.hid hN
  have HB := Lib.hid (YB.start w (.slice ia n ic) (.slice na m nc) (.slice wa wl wc) kd ln a0 sz pos)
  have h4a : ((pos : Int) % 4 == 0) = false := by simp; omega
  have h4b : ((pos : Int) % 4 != 0) = true := by simp; omega
  have h4c : ¬ (pos : Int) % 4 = 0 := by omega
  clear h4
  clear hN
  go_enter Tryz.func99, Tryz.ntmps99
  go_wp2
  refine bodyPost_ret (v := .tuple #[.agg #[.slice ia n ic, .slice na m nc, .int .i64 pos], .int .i64 3]) (by simp [results, Tryz.results99, go_sem]) rfl ?_
  exact LyPost.bad (by decide) HN.out (by first | exact below_set (below_set (below_set HB.out.old (by omega) _) (by omega) _) (by omega) _ | exact (three_new w _ _ _).2.2.2)
set_option maxHeartbeats 1600000 in
theorem lay_no2b {N : Nat} {w : World} {ia na wa : Option Addr} {n ic m nc wl wc : Nat} {xs : List (AS.It × Value)} {ns : List (List UInt8 × Nat)} {pos P' : Nat} (kd ln a0 sz : Nat) (hN : N ≤ w.heap.size) (hp : pos ≤ 16384) (hs : sz ≤ 1000000) (hk1 : ((kd : Int) == 1) = false) (hk2 : ((kd : Int) == 2) = true) (h4 : pos % 4 = 0) (h : 16384 < pos + sz) :
    Calls Tryz.prog 99 #[.agg #[.slice ia n ic, .slice na m nc, .int .i64 pos], .agg #[.int .i64 kd, .int .i64 ln, .int .i64 a0, .int .i64 sz, .slice wa wl wc]] w (LyPost N w 3 xs ns P') := by
  have HN := Lib.hid hN
  have HB := Lib.hid (YB.start w (.slice ia n ic) (.slice na m nc) (.slice wa wl wc) kd ln a0 sz pos)
  have h4a : ((pos : Int) % 4 == 0) = true := by simp; omega
  have h4b : ((pos : Int) % 4 != 0) = false := by simp; omega
  clear h4
  have h16 : (16384 : Int) < (pos : Int) + sz := by omega
  clear h
  clear hN
  go_enter Tryz.func99, Tryz.ntmps99
  go_wp2
  refine bodyPost_ret (v := .tuple #[.agg #[.slice ia n ic, .slice na m nc, .int .i64 pos], .int .i64 3]) (by simp [results, Tryz.results99, go_sem]) rfl ?_
  exact LyPost.bad (by decide) HN.out (by first | exact below_set (below_set (below_set HB.out.old (by omega) _) (by omega) _) (by omega) _ | exact (three_new w _ _ _).2.2.2)
end Go.Proofs.YtcnmnkgnaknpdaaGreatDoor
/-! RfH -/
namespace Go.Proofs.YtcnmnkgnaknpdaaGreatDoor
open Go.RowKit Go.Maps S02 S06 S07
def OnPost (N : Nat) (w : World) (R : Int × AS.St) (e : Ending) (w' : World) : Prop :=
  ∃ vi vn P, e = .returned (.tuple #[.agg #[vi, vn, .int .i64 P], .int .i64 R.1]) ∧ (∃ a n c, vi = .slice a n c) ∧ (∃ a n c, vn = .slice a n c) ∧ RM N w w' ∧ (R.1 = 0 → ∃ xs, xs.map (·.1) = R.2.items ∧ RS N w' vi vn xs R.2.names ∧ P = (R.2.pos : Int))
theorem OnPost.of_lay {N : Nat} {w : World} {st : AS.St} {xs : List (AS.It × Value)} {kd ln al sz : Nat} {words : List (List UInt8)} {wv : Value} {f : Nat} {us : Array Value} (hx : xs.map (·.1) = st.items) (h : Calls Tryz.prog f us w (LyPost N w (AS.laE st al sz) (xs ++ [(⟨kd, ln, st.pos, sz, words⟩, wv)]) st.names (st.pos + sz))) : Calls Tryz.prog f us w (OnPost N w (AS.lay st kd ln al sz words)) := by
  refine h.mono ?_
  rintro e w' ⟨vi, vn, P, rfl, f1, f2, rm, hk⟩
  refine ⟨vi, vn, P, rfl, f1, f2, rm, fun h0 => ?_⟩
  obtain ⟨h1, h2⟩ := hk h0
  exact ⟨_, by rw [List.map_append, hx]; rfl, h1, by rw [h2]; rfl⟩
theorem rlay_any {N : Nat} {w : World} {vi vn wv : Value} {st : AS.St} {xs : List (AS.It × Value)} {words : List (List UInt8)} (kd ln a0 al sz : Nat) (hN : N ≤ w.heap.size) (hr : RS N w vi vn xs st.names) (hm : xs.map (·.1) = st.items) (hw : TxR w wv words) (hx : ∀ x ∈ st.items, x.pos + x.size ≤ 16384) (hl : st.items.length ≤ 100000) (hp : st.pos ≤ 16384) (hs : sz ≤ 1000000) (hk : (kd = 1 ∨ kd = 2) ∧ al = 4 ∨ (kd = 3 ∨ kd = 4) ∧ al = 1) :
    Calls Tryz.prog 99 #[.agg #[vi, vn, .int .i64 st.pos], .agg #[.int .i64 kd, .int .i64 ln, .int .i64 a0, .int .i64 sz, wv]] w (OnPost N w (AS.lay st kd ln al sz words)) := by
  have hx' : ∀ p ∈ xs, p.1.pos + p.1.size ≤ 16384 := fun p hp => hx p.1 (by rw [← hm]; exact List.mem_map.2 ⟨p, hp, rfl⟩)
  have hl' : xs.length ≤ 100000 := by rw [← hm, List.length_map] at hl; exact hl
  refine OnPost.of_lay (wv := wv) hm ?_
  by_cases h3 : ¬ st.pos % al = 0 ∨ 16384 < st.pos + sz
  · rw [show AS.laE st al sz = 3 from if_pos h3]
    obtain ⟨ia, ic, rfl⟩ := own_form hr.its
    obtain ⟨na, nc, rfl⟩ := own_form hr.nms
    obtain ⟨wa, wc, rfl⟩ := txr_len hw
    rcases hk with ⟨rfl | rfl, rfl⟩ | ⟨hk, rfl⟩
    · by_cases h4 : st.pos % 4 = 0
      · exact lay_no1b 1 ln a0 sz hN hp hs rfl h4 (h3.resolve_left (fun h => h h4))
      · exact lay_no1a 1 ln a0 sz hN hp hs rfl h4
    · by_cases h4 : st.pos % 4 = 0
      · exact lay_no2b 2 ln a0 sz hN hp hs rfl rfl h4 (h3.resolve_left (fun h => h h4))
      · exact lay_no2a 2 ln a0 sz hN hp hs rfl rfl h4
    · exact lay_no3 kd ln a0 sz hN hp hs (by simp; omega) (by simp; omega) (by omega)
  · rw [show AS.laE st al sz = (if AS.ovl (AS.cov st.items) st.pos sz = true then 7 else 0) from if_neg h3, ← hm]
    have h16 : st.pos + sz ≤ 16384 := by omega
    rcases hk with ⟨rfl | rfl, rfl⟩ | ⟨hk, rfl⟩
    · exact lay_1 1 ln a0 sz hN hr hw hx' hl' rfl (by omega) h16
    · exact lay_2 2 ln a0 sz hN hr hw hx' hl' rfl rfl (by omega) h16
    · exact lay_3 kd ln a0 sz hN hr hw hx' hl' (by simp; omega) (by simp; omega) h16
/-- What equ comes to. -/
def eqS (st : AS.St) (W : List (List UInt8)) : Int × AS.St :=
  if W.length = 3 then (if AS.frE st.names (W.getD 1 []) = 0 then (AS.nbE (W.getD 2 []) (-2147483648) 4294967295, { st with names := st.names ++ [(W.getD 1 [], (AS.nbN (W.getD 2 []) (-2147483648) 4294967295 % 4294967296).toNat)] }) else (AS.frE st.names (W.getD 1 []), st)) else (2, st)
end Go.Proofs.YtcnmnkgnaknpdaaGreatDoor
/-! RfI -/
namespace Go.Proofs.YtcnmnkgnaknpdaaGreatDoor
open Go.RowKit Go.Maps S02 S06 S07
theorem LB.add {N : Nat} {w wr w1 : World} {vi vn vn' v : Value} {xs : List (AS.It × Value)} {st st' : AS.St} {W0 r : List (List UInt8)} {s : List UInt8} {u : Nat} {o : Obj} (h : LB N w wr vi vn xs st st' W0 r v) (hg : (wr.alloc o).grownBy w1 vn.ownBlock) (ho : w1.ownsRow N 57 2 vn' (st'.names.length + 1) (nmC st'.names ++ [NM.tv s, .int .u32 u])) :
    w1.heap[w.heap.size]? = some (.cells #[vi, vn, .int .i64 st.pos] 70 (0, 0)) ∧ w1.heap[w.heap.size + 1]? = some (.cells #[.slice none 0 0, .slice none 0 0, .int .i64 0] 70 (0, 0)) ∧ LQ N w w1 vi vn' xs (st'.names ++ [(s, u)]) w.heap.size (w.heap.size + 1) := by
  have hal : Below wr.heap.size wr (wr.alloc o) := (Below.refl _ wr).alloc (Nat.le_refl _) o
  have hsz := h.rm.size
  obtain ⟨q1, q2⟩ := (h.rs.below hal).name (by have := h.hN; simp; omega) hg ho
  have hma : RM N wr w1 := (RM.below hal (Nat.le_trans h.hN hsz)).trans q2
  have b0 := (hma.kind _ _ _ _ h.bx (by decide) (by decide)).trans h.bx
  have b1 := (hma.kind _ _ _ _ h.rb (by decide) (by decide)).trans h.rb
  exact ⟨b0, b1, q1, h.rm.trans hma, ⟨Nat.le_refl _, by omega, h.hN, by omega⟩, ⟨_, _, b0⟩, ⟨_, _, b1⟩⟩
theorem LB.q {N : Nat} {w wr : World} {vi vn v : Value} {xs : List (AS.It × Value)} {st st' : AS.St} {W0 r : List (List UInt8)} (h : LB N w wr vi vn xs st st' W0 r v) : LQ N w wr vi vn xs st'.names w.heap.size (w.heap.size + 1) := ⟨h.rs, h.rm, ⟨Nat.le_refl _, by omega, h.hN, by omega⟩, ⟨_, _, h.bx⟩, ⟨_, _, h.rb⟩⟩
theorem OnPost.end {N : Nat} {w W : World} {vi vn : Value} {xs : List (AS.It × Value)} {ns : List (List UInt8 × Nat)} {b c : Nat} {R : Int × AS.St} {E P : Int} (h : LQ N w W vi vn xs ns b c) (hE : R.1 = E) (hk : E = 0 → xs.map (·.1) = R.2.items ∧ ns = R.2.names ∧ P = (R.2.pos : Int)) : OnPost N w R (.returned (.tuple #[.agg #[vi, vn, .int .i64 P], .int .i64 E])) W := by
  refine ⟨vi, vn, P, by rw [hE], (by obtain ⟨a, c, e⟩ := own_form h.rs.its; exact ⟨a, _, c, e⟩), (by obtain ⟨a, c, e⟩ := own_form h.rs.nms; exact ⟨a, _, c, e⟩), h.rm, fun h0 => ?_⟩
  obtain ⟨h1, h2, h3⟩ := hk (hE.symm.trans h0)
  exact ⟨xs, h1, h2 ▸ h.rs, h3⟩
set_option maxHeartbeats 4000000 in
theorem requ_any {N : Nat} {w : World} {vi vn v : Value} {xs : List (AS.It × Value)} {st : AS.St} {W : List (List UInt8)} (hN : N ≤ w.heap.size) (hr : RS N w vi vn xs st.names) (hm : xs.map (·.1) = st.items) (hv : TxR w v W) (hn : st.names.length + W.length ≤ 900000) (hw : ∀ y ∈ W, y ≠ [] ∧ y.length ≤ 200000) :
    Calls Tryz.prog 101 #[.agg #[vi, vn, .int .i64 st.pos], v] w (OnPost N w (eqS st W)) := by
  obtain ⟨i57, HI⟩ := info_parts name_info
  have HI := Lib.hid HI
  obtain ⟨W0, hW0⟩ : ∃ W0, (w.alloc (.cells #[vi, vn, .int .i64 st.pos] 70)).alloc (.cells #[.slice none 0 0, .slice none 0 0, .int .i64 0] 70) = W0 := ⟨_, rfl⟩
  have HL := Lib.hid (show LB N w W0 vi vn xs st st W W v from hW0 ▸ LB.start hN hr hv hn hw)
  obtain ⟨ia, ic, rfl⟩ := own_form hr.its
  obtain ⟨na, nc, rfl⟩ := own_form hr.nms
  have HM := Lib.hid hm
  have hnl : st.names.length ≤ 900000 := by omega
  have b0 := cell_of (o := 0) HL.out.bx rfl
  have b1 := cell_of (o := 1) HL.out.bx rfl
  have b2 := cell_of (o := 2) HL.out.bx rfl
  have bf := fun o => unfrozen (o := o) HL.out.bx
  have r0 := cell_of (o := 0) HL.out.rb rfl
  have r1 := cell_of (o := 1) HL.out.rb rfl
  have r2 := cell_of (o := 2) HL.out.rb rfl
  have rf := fun o => unfrozen (o := o) HL.out.rb
  by_cases h3 : W.length = 3
  · obtain ⟨s0, s1, s2, rfl⟩ : ∃ a b c, W = [a, b, c] := by
      match W, h3 with
      | [a, b, c], _ => exact ⟨a, b, c, rfl⟩
    obtain ⟨g, o, c, rfl⟩ := txr_form hv (by simp)
    have x1 := HL.out.tx.cellOf (by simp) 1 (by simp)
    have x2 := HL.out.tx.cellOf (by simp) 2 (by simp)
    obtain ⟨S, hS, hS1, hS2⟩ := bt_of s1
    obtain ⟨T, hT, hT1, hT2⟩ := bt_of s2
    have hSz : S.size ≤ 1000000 := by rw [hS2]; have := (hw s1 (by simp)).2; omega
    have hTz : T.size ≤ 1000000 := by rw [hT2]; have := (hw s2 (by simp)).2; omega
    replace x1 : W0.cell? ⟨g, o + 1, none⟩ = some (.string S) := by rw [x1, ← hS]; rfl
    replace x2 : W0.cell? ⟨g, o + 2, none⟩ = some (.string T) := by rw [x2, ← hT]; rfl
    have HIS := Lib.hid (fun W' => risName_any S W' hSz)
    have HFD := Lib.hid (fun n => (rfind_any S (NmR.of_own (HL.out.rs.below (below_drewN' W0 n)).nms) (by omega)).mono (R' := fun e w' => e = .returned (.tuple #[.int .u32 ((AS.fnd st.names S.data.toList).getD 0 : Nat), .bool (AS.fnd st.names S.data.toList).isSome]) ∧ ∃ k, w' = W0.drewN k) (fun _ _ ⟨he, hw⟩ => ⟨he, n, hw.symm⟩))
    have HBT := Lib.hid (fun W' => rbetween_any T (-2147483648) 4294967295 W' hTz)
    rw [hS1] at HIS HFD
    rw [hT1] at HBT
    have HS1 := Lib.hid hS1
    have HEQ : eqS st [s0, s1, s2] = (if AS.frE st.names s1 = 0 then (AS.nbE s2 (-2147483648) 4294967295, { st with names := st.names ++ [(s1, (AS.nbN s2 (-2147483648) 4294967295 % 4294967296).toNat)] }) else (AS.frE st.names s1, st)) := rfl
    clear hr hv hn hw hN hm hS hS1 hS2 hT hT1 hT2 h3
    cases hn : AS.isNm s1
    · have HE := Lib.hid (show eqS st [s0, s1, s2] = (2, st) by rw [HEQ]; unfold AS.frE; rw [hn]; rfl)
      rw [hn] at HIS
      clear hn HEQ
      go_enter Tryz.func101, Tryz.ntmps101
      go_upto_region 1 with fail
      clear hW0
      go_wp2_with (go_at_call 97; refine (HIS.out _).mono ?_; rintro e w1 ⟨rfl, rfl⟩)
      refine bodyPost_ret (v := .tuple #[.agg #[.slice ia xs.length ic, .slice na st.names.length nc, .int .i64 st.pos], .int .i64 2]) (by simp [results, Tryz.results101, go_sem, r0, r1, r2]) rfl ?_
      rw [HE.out]
      exact OnPost.end HL.out.q.swap.set.set.set rfl (fun h => by cases h)
    · rw [hn] at HIS
      cases hf : AS.fnd st.names s1 with
      | some u =>
        have HE := Lib.hid (show eqS st [s0, s1, s2] = (7, st) by rw [HEQ, show AS.frE st.names s1 = 7 by unfold AS.frE; rw [hn, hf]; rfl]; rfl)
        rw [hf] at HFD
        clear hn hf HEQ
        go_enter Tryz.func101, Tryz.ntmps101
        go_upto_region 1 with fail
        clear hW0
        go_upto_region 3 with (go_at_call 97; refine (HIS.out _).mono ?_; rintro e w1 ⟨rfl, rfl⟩)
        go_quiet (first | (go_at_call 28; exact HFD.out _))
        go_wp2
        refine bodyPost_ret (v := .tuple #[.agg #[.slice ia xs.length ic, .slice na st.names.length nc, .int .i64 st.pos], .int .i64 7]) (by simp [results, Tryz.results101, go_sem, r0, r1, r2]) rfl ?_
        rw [HE.out]
        exact OnPost.end (HL.out.below (below_drewN' W0 _)).q.swap.set.set.set rfl (fun h => by cases h)
      | none =>
        have HF0 : AS.frE st.names s1 = 0 := by unfold AS.frE; rw [hn, hf]; rfl
        rw [hf] at HFD
        rw [HF0, if_pos rfl] at HEQ
        have HEQ2 := Lib.hid HEQ
        clear hn hf HF0 HEQ
        by_cases hE : AS.nbE s2 (-2147483648) 4294967295 = 0
        · rw [hE, if_pos rfl] at HBT
          have HE := Lib.hid hE
          obtain ⟨hb1, hb2⟩ := AS.nb_bd hE
          clear hE
          obtain ⟨u, hu⟩ : ∃ u : Nat, (AS.nbN s2 (-2147483648) 4294967295 % 4294967296).toNat = u := ⟨_, rfl⟩
          have hu1 : IntKind.u32.wrap (AS.nbN s2 (-2147483648) 4294967295) = (u : Int) := by rw [IntKind.wrap_u32]; omega
          rw [hu] at HEQ2
          have HTV := Lib.hid (show NM.tv s1 = .string S from (str_of HS1.out).symm)
          clear hu
          generalize AS.nbN s2 (-2147483648) 4294967295 = z at *
          go_enter Tryz.func101, Tryz.ntmps101
          go_upto_region 1 with fail
          clear hW0
          go_upto_region 3 with (go_at_call 97; refine (HIS.out _).mono ?_; rintro e w1 ⟨rfl, rfl⟩)
          go_quiet (first | (go_at_call 28; exact HFD.out _))
          generalize hW1 : World.drewN W0 _ = W1
          have HR1 := Lib.hid (show LB N w W1 (.slice ia xs.length ic) (.slice na st.names.length nc) xs st st [s0, s1, s2] [s0, s1, s2] (.slice (some ⟨g, o, none⟩) [s0, s1, s2].length c) from hW1 ▸ HL.out.below (below_drewN' W0 _))
          have x1' : W1.cell? ⟨g, o + 1, none⟩ = some (.string S) := by rw [← hW1]; exact x1
          have x2' : W1.cell? ⟨g, o + 2, none⟩ = some (.string T) := by rw [← hW1]; exact x2
          clear hW1 HL b0 b1 b2 bf r0 r1 r2 rf x1 x2
          have b0 := cell_of (o := 0) HR1.out.bx rfl
          have b1 := cell_of (o := 1) HR1.out.bx rfl
          have b2 := cell_of (o := 2) HR1.out.bx rfl
          have bf := fun o => unfrozen (o := o) HR1.out.bx
          go_upto_region 9 with (go_at_call 100; refine (HBT.out _).mono ?_; rintro e w2 ⟨rfl, rfl⟩)
          obtain ⟨n, hn⟩ : ∃ n, st.names.length = n := ⟨_, rfl⟩
          rw [hn] at hnl b1
          have HNN := Lib.hid hn
          have HOW := Lib.hid (fun o => show (W1.alloc o).ownsRow N 57 2 (.slice na n nc) n (nmC st.names) from hn ▸ HR1.out.rs.nms.alloc o)
          have HNB := Lib.hid (show N ≤ W1.heap.size from Nat.le_trans HR1.out.hN HR1.out.rm.size)
          have b1a : ∀ ob, (W1.alloc ob).cell? ⟨w.heap.size, 1, none⟩ = some (.slice na n nc) := fun ob => cell_below ((Below.refl _ W1).alloc (Nat.le_refl _) ob) b1
          rw [hn]
          go_region_law (refine step_append_lies _ rfl (.tmp 44) (.tmp 51) 27 rfl N 57 i57 (.agg #[.string ⟨#[]⟩, .int .u32 0]) 2 24 Tryz.underlying27 HI.out.1 HI.out.2.1 HI.out.2.2.1 HI.out.2.2.2 rfl (by decide) (.slice na n nc) n (nmC st.names) (by simp [Act.eval]) (HOW.out _).drew ⟨W1.heap.size, 0, none⟩ 1 1 [.string S, .int .u32 u] (by simp [Act.eval]) rfl (two_new W1 _ _ 57) (two_one _ _) (by decide) (by unfold maxLen; omega) (by omega) (by have := HNB.out; simp; omega) (W1.heap.size + 1) (by simp) ?_; intro g' cap' w3 ho3 hg3 hv3 hl3; obtain ⟨y0, y1, y3⟩ := HR1.out.add (s := s1) (u := u) (vn' := .slice (some ⟨g', 0, none⟩) (n + 1) cap') (by rw [hn]; exact ⟨hg3.os, hg3.tape, hg3.output, hg3.size, hg3.block⟩) (by rw [hn, HTV.out]; exact ho3); have p1 := cell_of (o := 1) y0 rfl; have pf := fun o => unfrozen (o := o) y0)
          all_goals
            have HY := Lib.hid y3
            have p0 := cell_of (o := 0) y0 rfl
            have p2 := cell_of (o := 2) y0 rfl
            have r0 := cell_of (o := 0) y1 rfl
            have r1 := cell_of (o := 1) y1 rfl
            have r2 := cell_of (o := 2) y1 rfl
            have rf := fun o => unfrozen (o := o) y1
            clear y0 y1 y3 ho3 hg3 hv3 hl3 hn
            go_wp2
            refine bodyPost_ret (v := .tuple #[.agg #[.slice ia xs.length ic, .slice (some ⟨g', 0, none⟩) (n + 1) cap', .int .i64 st.pos], .int .i64 0]) (by simp [results, Tryz.results101, go_sem, r0, r1, r2]) rfl ?_
            rw [HEQ2.out, HE.out]
            exact OnPost.end HY.out.set.swap.set.set.set rfl (fun _ => ⟨HM.out, rfl, rfl⟩)
        · rw [if_neg hE] at HBT
          generalize AS.nbE s2 (-2147483648) 4294967295 = E at *
          have e1 : (E == 0) = false := by simp [hE]
          have e2 : (E != 0) = true := by simp [hE]
          have HE := Lib.hid hE
          clear hE
          go_enter Tryz.func101, Tryz.ntmps101
          go_upto_region 1 with fail
          clear hW0
          go_upto_region 3 with (go_at_call 97; refine (HIS.out _).mono ?_; rintro e w1 ⟨rfl, rfl⟩)
          go_quiet (first | (go_at_call 28; exact HFD.out _))
          go_wp2_with (go_at_call 100; refine (HBT.out _).mono ?_; rintro e w2 ⟨rfl, rfl⟩)
          refine bodyPost_ret (v := .tuple #[.agg #[.slice ia xs.length ic, .slice na st.names.length nc, .int .i64 st.pos], .int .i64 E]) (by simp [results, Tryz.results101, go_sem, r0, r1, r2]) rfl ?_
          rw [HEQ2.out]
          exact OnPost.end (HL.out.below (below_drewN' W0 _)).q.swap.set.set.set rfl (fun h => absurd h HE.out)
  · have HE := Lib.hid (show eqS st W = (2, st) from if_neg h3)
    obtain ⟨va, vc, rfl⟩ := txr_len hv
    have h3' : ((W.length : Int) == 3) = false := by simp; omega
    have h3'' : ((W.length : Int) != 3) = true := by simp; omega
    clear hr hv hn hw hN hm h3
    go_enter Tryz.func101, Tryz.ntmps101
    go_upto_region 1 with fail
    clear hW0
    go_wp2
    refine bodyPost_ret (v := .tuple #[.agg #[.slice ia xs.length ic, .slice na st.names.length nc, .int .i64 st.pos], .int .i64 2]) (by simp [results, Tryz.results101, go_sem, r0, r1, r2]) rfl ?_
    rw [HE.out]
    exact OnPost.end HL.out.q.swap.set.set.set rfl (fun h => by cases h)
end Go.Proofs.YtcnmnkgnaknpdaaGreatDoor
/-! RfJ -/
namespace Go.Proofs.YtcnmnkgnaknpdaaGreatDoor
open Go.RowKit Go.Maps S02 S06 S07
theorem LB.kept {N : Nat} {w wr w2 : World} {vi vn v : Value} {xs : List (AS.It × Value)} {st st' : AS.St} {W0 r : List (List UInt8)} (h : LB N w wr vi vn xs st st' W0 r v) (rm : RM N wr w2) : w2.heap[w.heap.size + 1]? = some (.cells #[.slice none 0 0, .slice none 0 0, .int .i64 0] 70 (0, 0)) := (rm.kind _ _ _ _ h.rb (by decide) (by decide)).trans h.rb
theorem RS.set3 {N : Nat} {W : World} {vi vn : Value} {xs : List (AS.It × Value)} {ns : List (List UInt8 × Nat)} {b : Nat} {c : Array Value} {f : Nat × Nat} {u0 u1 u2 : Value} (h : RS N W vi vn xs ns) (hk : W.heap[b]? = some (.cells c 70 f)) : RS N (((W.setCell ⟨b, 0, none⟩ u0).setCell ⟨b, 1, none⟩ u1).setCell ⟨b, 2, none⟩ u2) vi vn xs ns := by
  have h1 := heap_set (o := 0) (v := u0) hk
  have h2 := heap_set (o := 1) (v := u1) h1
  exact ((h.off hk (by decide) _ _).off h1 (by decide) _ _).off h2 (by decide) _ _
theorem OnPost.fin {N : Nat} {w wr w2 : World} {vi vn v vi' vn' : Value} {xs : List (AS.It × Value)} {st st' : AS.St} {W0 r : List (List UInt8)} {R : Int × AS.St} {E P : Int} {u0 u1 u2 : Value} (h : LB N w wr vi vn xs st st' W0 r v) (rm : RM N wr w2) (f1 : ∃ a n c, vi' = .slice a n c) (f2 : ∃ a n c, vn' = .slice a n c) (hE : R.1 = E) (hk : E = 0 → ∃ xs, xs.map (·.1) = R.2.items ∧ RS N w2 vi' vn' xs R.2.names ∧ P = (R.2.pos : Int)) :
    OnPost N w R (.returned (.tuple #[.agg #[vi', vn', .int .i64 P], .int .i64 E])) (((w2.setCell ⟨w.heap.size + 1, 0, none⟩ u0).setCell ⟨w.heap.size + 1, 1, none⟩ u1).setCell ⟨w.heap.size + 1, 2, none⟩ u2) := by
  have hb := h.kept rm
  refine ⟨vi', vn', P, by rw [hE], f1, f2, (((h.rm.trans rm).set h.hN (Nat.le_succ _)).set h.hN (Nat.le_succ _)).set h.hN (Nat.le_succ _), fun h0 => ?_⟩
  obtain ⟨xs, q1, q2, q3⟩ := hk (hE.symm.trans h0)
  exact ⟨xs, q1, q2.set3 hb, q3⟩
theorem one_org {st : AS.St} {line : Nat} {r : List (List UInt8)} : AS.one st line (AS.dOrg :: r) = (if r.length = 1 then (AS.nbE (r.getD 0 []) 0 16384, { st with pos := (AS.nbN (r.getD 0 []) 0 16384).toNat }) else (2, st)) := by
  rw [AS.one, if_neg (by decide)]
  by_cases h : r.length = 1
  · rw [if_pos ⟨rfl, h⟩, if_pos h]
  · rw [if_neg (fun e => h e.2), if_neg (fun e => absurd e.1 (by decide)), if_neg (fun e => absurd e.1 (by decide)), if_neg (fun e => absurd e.1 (by decide)), if_neg (fun e => absurd e.1 (by decide)), if_neg h]
theorem one_space {st : AS.St} {line : Nat} {r : List (List UInt8)} : AS.one st line (AS.dSpace :: r) = (if r.length = 1 then (if AS.nbE (r.getD 0 []) 0 16384 = 0 then AS.lay st 4 line 1 (AS.nbN (r.getD 0 []) 0 16384).toNat [] else (AS.nbE (r.getD 0 []) 0 16384, st)) else (2, st)) := by
  rw [AS.one, if_neg (by decide), if_neg (fun e => absurd e.1 (by decide))]
  by_cases h : r.length = 1
  · rw [if_pos ⟨rfl, h⟩, if_pos h]
  · rw [if_neg (fun e => h e.2), if_neg (fun e => absurd e.1 (by decide)), if_neg (fun e => absurd e.1 (by decide)), if_neg (fun e => absurd e.1 (by decide)), if_neg h]
theorem one_word {st : AS.St} {line : Nat} {r : List (List UInt8)} : AS.one st line (AS.dWord :: r) = (if 1 ≤ r.length then AS.lay st 2 line 4 (4 * r.length) r else (2, st)) := by
  rw [AS.one, if_neg (by decide), if_neg (fun e => absurd e.1 (by decide)), if_neg (fun e => absurd e.1 (by decide))]
  by_cases h : 1 ≤ r.length
  · rw [if_pos ⟨rfl, h⟩, if_pos h]
  · rw [if_neg (fun e => h e.2), if_neg (fun e => absurd e.1 (by decide)), if_neg (fun e => absurd e.1 (by decide)), if_neg h]
theorem one_byte {st : AS.St} {line : Nat} {r : List (List UInt8)} : AS.one st line (AS.dByte :: r) = (if 1 ≤ r.length then AS.lay st 3 line 1 (1 * r.length) r else (2, st)) := by
  rw [AS.one, if_neg (by decide), if_neg (fun e => absurd e.1 (by decide)), if_neg (fun e => absurd e.1 (by decide)), if_neg (fun e => absurd e.1 (by decide))]
  by_cases h : 1 ≤ r.length
  · rw [if_pos ⟨rfl, h⟩, if_pos h]
  · rw [if_neg (fun e => h e.2), if_neg (fun e => absurd e.1 (by decide)), if_neg h]
theorem one_equ {st : AS.St} {line : Nat} {r : List (List UInt8)} : AS.one st line (AS.dEqu :: r) = eqS st (AS.dEqu :: r) := by
  rw [AS.one, if_neg (by decide), if_neg (fun e => absurd e.1 (by decide)), if_neg (fun e => absurd e.1 (by decide)), if_neg (fun e => absurd e.1 (by decide)), if_neg (fun e => absurd e.1 (by decide))]
  unfold eqS
  by_cases h : r.length = 2
  · have e : (AS.dEqu :: r).length = 3 := by rw [List.length_cons, h]
    rw [if_pos ⟨rfl, h⟩]
    conv => rhs; rw [if_pos e]
    rfl
  · have e : ¬ (AS.dEqu :: r).length = 3 := by rw [List.length_cons]; omega
    rw [if_neg (fun e => h e.2)]
    conv => rhs; rw [if_neg e]
theorem one_none {st : AS.St} {line : Nat} {d : List UInt8} {r : List (List UInt8)} (hp : Lib.hasPrefix d [46] = true) (h1 : ¬ d = AS.dOrg) (h2 : ¬ d = AS.dSpace) (h3 : ¬ d = AS.dWord) (h4 : ¬ d = AS.dByte) (h5 : ¬ d = AS.dEqu) : AS.one st line (d :: r) = (2, st) := by
  rw [AS.one, if_neg (by rw [hp]; decide), if_neg (fun e => h1 e.1), if_neg (fun e => h2 e.1), if_neg (fun e => h3 e.1), if_neg (fun e => h4 e.1), if_neg (fun e => h5 e.1)]
theorem ne_lit {D : ByteArray} {d s : List UInt8} (hD : D.data.toList = d) (h : ¬ d = s) (L : List UInt8) (hL : s = L) : (D.toList == L) = false ∧ ¬ D.toList = L := by
  subst hL
  have : ¬ D.toList = s := by rw [ByteArray.toList_eq, hD]; exact h
  exact ⟨by simpa using this, this⟩
set_option maxHeartbeats 16000000 in
theorem rone_any {N : Nat} {w : World} {vi vn v : Value} {xs : List (AS.It × Value)} {st : AS.St} {W : List (List UInt8)} (line : Nat) (hN : N ≤ w.heap.size) (hr : RS N w vi vn xs st.names) (hm : xs.map (·.1) = st.items) (hv : TxR w v W) (hn : st.names.length + W.length ≤ 900000) (hw : ∀ y ∈ W, y ≠ [] ∧ y.length ≤ 200000) (hx : ∀ x ∈ st.items, x.pos + x.size ≤ 16384) (hl : st.items.length ≤ 100000) (hp : st.pos ≤ 16384) (hW : W.length ≤ 200000) :
    Calls Tryz.prog 54 #[.agg #[vi, vn, .int .i64 st.pos], v, .int .i64 line] w (OnPost N w (AS.one st line W)) := by
  obtain ⟨W0, hW0⟩ : ∃ W0, (w.alloc (.cells #[vi, vn, .int .i64 st.pos] 70)).alloc (.cells #[.slice none 0 0, .slice none 0 0, .int .i64 0] 70) = W0 := ⟨_, rfl⟩
  have HL := Lib.hid (show LB N w W0 vi vn xs st st W W v from hW0 ▸ LB.start hN hr hv hn hw)
  have HNW := Lib.hid (show N ≤ W0.heap.size from Nat.le_trans hN HL.out.rm.size)
  have HLay := Lib.hid (fun (W' : World) (h : LB N w W' vi vn xs st st W W v) (kd a0 al sz : Nat) (wv : Value) (words : List (List UInt8)) (hw : TxR W' wv words) (hs : sz ≤ 1000000) hk => rlay_any (words := words) kd line a0 al sz (Nat.le_trans hN h.rm.size) h.rs hm hw hx hl hp hs hk)
  have HEqu := Lib.hid (requ_any HNW.out HL.out.rs hm HL.out.tx hn hw)
  obtain ⟨ia, ic, rfl⟩ := own_form hr.its
  obtain ⟨na, nc, rfl⟩ := own_form hr.nms
  have HM := Lib.hid hm
  have b0 := cell_of (o := 0) HL.out.bx rfl
  have b1 := cell_of (o := 1) HL.out.bx rfl
  have b2 := cell_of (o := 2) HL.out.bx rfl
  have bf := fun o => unfrozen (o := o) HL.out.bx
  have r0 := cell_of (o := 0) HL.out.rb rfl
  have r1 := cell_of (o := 1) HL.out.rb rfl
  have r2 := cell_of (o := 2) HL.out.rb rfl
  have rf := fun o => unfrozen (o := o) HL.out.rb
  cases W with
  | nil =>
    obtain ⟨va, vc, rfl⟩ := txr_len hv
    clear hr hm hv hn hw hx hl hp hN HLay HEqu
    go_enter Tryz.func54, Tryz.ntmps54
    go_upto_region 1 with fail
    clear hW0
    go_wp2
    refine bodyPost_ret (v := .tuple #[.agg #[.slice ia xs.length ic, .slice na st.names.length nc, .int .i64 st.pos], .int .i64 0]) (by simp [results, Tryz.results54, go_sem, r0, r1, r2]) rfl ?_
    exact OnPost.fin HL.out (RM.refl _ _) ⟨_, _, _, rfl⟩ ⟨_, _, _, rfl⟩ rfl (fun _ => ⟨xs, HM.out, HL.out.rs, rfl⟩)
  | cons d r =>
    obtain ⟨g, o, c, hvf⟩ := txr_form hv (by simp)
    obtain ⟨m, hmr⟩ : ∃ m, r.length = m := ⟨_, rfl⟩
    rw [List.length_cons, hmr] at hvf
    subst hvf
    obtain ⟨D, hD, hD1, hD2⟩ := bt_of d
    have x0 : W0.cell? ⟨g, o, none⟩ = some (.string D) := by
      have := HL.out.tx.cellOf (by simp) 0 (by simp)
      rw [Nat.add_zero] at this
      rw [this, ← hD]
      rfl
    have hne : d ≠ [] := (hw d (by simp)).1
    have hDz : 0 < D.size := by
      rcases Nat.eq_zero_or_pos D.size with h | h
      · exact absurd (List.eq_nil_of_length_eq_zero (hD2.symm.trans h)) hne
      · exact h
    have hPR := AS.pre_one hne
    rw [← hD1, NM.getD_eq D 0 hDz] at hPR
    have hml : m ≤ 200000 := by simp at hW; omega
    by_cases hdot : D[0] = 46
    · have hdot' : ((D[0].toNat : Int) == 46) = true := by rw [hdot]; rfl
      have hdot'' : ((D[0].toNat : Int) != 46) = false := by rw [bne, hdot']; rfl
      have HPR : Lib.hasPrefix d [46] = true := by rw [← hD1, hPR]; simpa using hdot
      by_cases h11 : d = AS.dOrg
      · obtain rfl : D = ⟨#[46, 111, 114, 103]⟩ := bytes_inj (hD1.trans h11)
        subst h11
        clear hr hm hv hx hl hp hN HLay HEqu hdot hdot' hdot'' hPR hne hD hD1 hD2 hDz HPR
        by_cases h2 : m = 1
        · obtain ⟨s1, rfl⟩ : ∃ s, r = [s] := by
            match r, hmr.trans h2 with
            | [s], _ => exact ⟨s, rfl⟩
          subst h2
          obtain ⟨S, hS, hS1, hS2⟩ := bt_of s1
          have x1 : W0.cell? ⟨g, o + 1, none⟩ = some (.string S) := by
            rw [HL.out.tx.cellOf (by simp) 1 (by simp), ← hS]
            rfl
          have hSz : S.size ≤ 1000000 := by rw [hS2]; have := (hw s1 (by simp)).2; omega
          have HBT := Lib.hid (fun W' => rbetween_any S 0 16384 W' hSz)
          rw [hS1] at HBT
          clear hS hS1 hS2 hw hn hW
          by_cases hE : AS.nbE s1 0 16384 = 0
          · have HO := Lib.hid (show AS.one st line [AS.dOrg, s1] = (AS.nbE s1 0 16384, { st with pos := (AS.nbN s1 0 16384).toNat }) from one_org)
            rw [hE, if_pos rfl] at HBT
            have HE := Lib.hid hE
            obtain ⟨hb1, hb2⟩ := AS.nb_bd hE
            clear hE
            rw [HO.out, HE.out]
            have HZ := Lib.hid (show AS.nbN s1 0 16384 = ((AS.nbN s1 0 16384).toNat : Int) by omega)
            go_enter Tryz.func54, Tryz.ntmps54
            go_upto_region 1 with fail
            clear hW0
            go_wp2_with (go_at_call 100; refine (HBT.out _).mono ?_; rintro e w2 ⟨rfl, rfl⟩)
            refine bodyPost_ret (v := .tuple #[.agg #[.slice ia xs.length ic, .slice na st.names.length nc, .int .i64 (AS.nbN s1 0 16384)], .int .i64 0]) (by simp [results, Tryz.results54, go_sem, r0, r1, r2]) rfl ?_
            exact OnPost.end HL.out.q.set.swap.set.set.set rfl (fun _ => ⟨HM.out, rfl, HZ.out⟩)
          · have HO := Lib.hid (show AS.one st line [AS.dOrg, s1] = (AS.nbE s1 0 16384, { st with pos := (AS.nbN s1 0 16384).toNat }) from one_org)
            rw [if_neg hE] at HBT
            generalize AS.nbE s1 0 16384 = E at *
            have e1 : (E == 0) = false := by simp [hE]
            have e2 : (E != 0) = true := by simp [hE]
            have HE := Lib.hid hE
            rw [HO.out]
            clear hE
            go_enter Tryz.func54, Tryz.ntmps54
            go_upto_region 1 with fail
            clear hW0
            go_wp2_with (go_at_call 100; refine (HBT.out _).mono ?_; rintro e w2 ⟨rfl, rfl⟩)
            refine bodyPost_ret (v := .tuple #[.agg #[.slice ia xs.length ic, .slice na st.names.length nc, .int .i64 st.pos], .int .i64 E]) (by simp [results, Tryz.results54, go_sem, r0, r1, r2]) rfl ?_
            exact OnPost.fin HL.out (RM.refl _ _) ⟨_, _, _, rfl⟩ ⟨_, _, _, rfl⟩ rfl (fun h => absurd h HE.out)
        · have HO := Lib.hid (show AS.one st line (AS.dOrg :: r) = (2, st) by rw [one_org, if_neg (by omega)])
          have h2' : ((m : Int) + 1 == 2) = false := by simp; omega
          have h2'' : ((m : Int) + 1 != 2) = true := by simp; omega
          rw [HO.out]
          go_enter Tryz.func54, Tryz.ntmps54
          go_upto_region 1 with fail
          clear hW0
          go_wp2
          refine bodyPost_ret (v := .tuple #[.agg #[.slice ia xs.length ic, .slice na st.names.length nc, .int .i64 st.pos], .int .i64 2]) (by simp [results, Tryz.results54, go_sem, r0, r1, r2]) rfl ?_
          exact OnPost.fin HL.out (RM.refl _ _) ⟨_, _, _, rfl⟩ ⟨_, _, _, rfl⟩ rfl (fun h => by cases h)
      · have HX0 := Lib.hid h11
        by_cases h12 : d = AS.dSpace
        · obtain rfl : D = ⟨#[46, 115, 112, 97, 99, 101]⟩ := bytes_inj (hD1.trans h12)
          subst h12
          clear hr hm hv hx hl hp hN HEqu hdot hdot' hdot'' hPR hne hD hD1 hD2 hDz HPR
          by_cases h2 : m = 1
          · obtain ⟨s1, rfl⟩ : ∃ s, r = [s] := by
              match r, hmr.trans h2 with
              | [s], _ => exact ⟨s, rfl⟩
            subst h2
            obtain ⟨S, hS, hS1, hS2⟩ := bt_of s1
            have x1 : W0.cell? ⟨g, o + 1, none⟩ = some (.string S) := by
              rw [HL.out.tx.cellOf (by simp) 1 (by simp), ← hS]
              rfl
            have hSz : S.size ≤ 1000000 := by rw [hS2]; have := (hw s1 (by simp)).2; omega
            have HBT := Lib.hid (fun W' => rbetween_any S 0 16384 W' hSz)
            rw [hS1] at HBT
            clear hS hS1 hS2 hw hn hW
            by_cases hE : AS.nbE s1 0 16384 = 0
            · have HO := Lib.hid (show AS.one st line [AS.dSpace, s1] = AS.lay st 4 line 1 (AS.nbN s1 0 16384).toNat [] by rw [one_space]; exact if_pos hE)
              rw [hE, if_pos rfl] at HBT
              have HE := Lib.hid hE
              obtain ⟨hb1, hb2⟩ := AS.nb_bd hE
              clear hE
              have HC := Lib.hid (HLay.out W0 HL.out 4 0 1 (AS.nbN s1 0 16384).toNat (.slice none 0 0) [] (.inl ⟨rfl, _, _, rfl⟩) (by omega) (.inr ⟨.inr rfl, rfl⟩))
              rw [show (((AS.nbN s1 0 16384).toNat : Nat) : Int) = AS.nbN s1 0 16384 by omega] at HC
              rw [HO.out]
              clear HLay
              go_enter Tryz.func54, Tryz.ntmps54
              go_upto_region 1 with fail
              clear hW0
              go_wp2_with (first | (go_at_call 100; refine (HBT.out _).mono ?_; rintro e w2 ⟨rfl, rfl⟩) | (go_at_call 99; refine HC.out.mono ?_; rintro e w2 ⟨vi', vn', P, rfl, ⟨a1, n1, c1, rfl⟩, ⟨a2, n2, c2, rfl⟩, rm2, hk2⟩; have HR2 := Lib.hid rm2; have HK2 := Lib.hid hk2; have hkb := HL.out.kept rm2; have t0 := cell_of (o := 0) hkb rfl; have t1 := cell_of (o := 1) hkb rfl; have t2 := cell_of (o := 2) hkb rfl; have tf := fun o => unfrozen (o := o) hkb; clear rm2 hk2 hkb))
              refine bodyPost_ret (v := .tuple #[.agg #[.slice a1 n1 c1, .slice a2 n2 c2, .int .i64 P], .int .i64 (AS.lay st 4 line 1 (AS.nbN s1 0 16384).toNat []).1]) (by simp [results, Tryz.results54, go_sem, t0, t1, t2]) rfl ?_
              exact OnPost.fin HL.out HR2.out ⟨_, _, _, rfl⟩ ⟨_, _, _, rfl⟩ rfl HK2.out
            · have HO := Lib.hid (show AS.one st line [AS.dSpace, s1] = (AS.nbE s1 0 16384, st) by rw [one_space]; exact if_neg hE)
              clear HLay
              rw [if_neg hE] at HBT
              generalize AS.nbE s1 0 16384 = E at *
              have e1 : (E == 0) = false := by simp [hE]
              have e2 : (E != 0) = true := by simp [hE]
              have HE := Lib.hid hE
              rw [HO.out]
              clear hE
              go_enter Tryz.func54, Tryz.ntmps54
              go_upto_region 1 with fail
              clear hW0
              go_wp2_with (go_at_call 100; refine (HBT.out _).mono ?_; rintro e w2 ⟨rfl, rfl⟩)
              refine bodyPost_ret (v := .tuple #[.agg #[.slice ia xs.length ic, .slice na st.names.length nc, .int .i64 st.pos], .int .i64 E]) (by simp [results, Tryz.results54, go_sem, r0, r1, r2]) rfl ?_
              exact OnPost.fin HL.out (RM.refl _ _) ⟨_, _, _, rfl⟩ ⟨_, _, _, rfl⟩ rfl (fun h => absurd h HE.out)
          · have HO := Lib.hid (show AS.one st line (AS.dSpace :: r) = (2, st) by rw [one_space, if_neg (by omega)])
            clear HLay
            have h2' : ((m : Int) + 1 == 2) = false := by simp; omega
            have h2'' : ((m : Int) + 1 != 2) = true := by simp; omega
            rw [HO.out]
            go_enter Tryz.func54, Tryz.ntmps54
            go_upto_region 1 with fail
            clear hW0
            go_wp2
            refine bodyPost_ret (v := .tuple #[.agg #[.slice ia xs.length ic, .slice na st.names.length nc, .int .i64 st.pos], .int .i64 2]) (by simp [results, Tryz.results54, go_sem, r0, r1, r2]) rfl ?_
            exact OnPost.fin HL.out (RM.refl _ _) ⟨_, _, _, rfl⟩ ⟨_, _, _, rfl⟩ rfl (fun h => by cases h)
        · have HX1 := Lib.hid h12
          by_cases h13 : d = AS.dWord
          · obtain rfl : D = ⟨#[46, 119, 111, 114, 100]⟩ := bytes_inj (hD1.trans h13)
            subst h13
            clear hr hm hv hx hl hp hN HEqu hdot hdot' hdot'' hPR hne hD hD1 hD2 hDz HPR
            by_cases h2 : m = 0
            · have HO := Lib.hid (show AS.one st line (AS.dWord :: r) = (2, st) by rw [one_word, if_neg (by omega)])
              have h2' : decide ((m : Int) + 1 < 2) = true := by simp; omega
              rw [HO.out]
              clear HLay
              go_enter Tryz.func54, Tryz.ntmps54
              go_upto_region 1 with fail
              clear hW0
              go_wp2
              refine bodyPost_ret (v := .tuple #[.agg #[.slice ia xs.length ic, .slice na st.names.length nc, .int .i64 st.pos], .int .i64 2]) (by simp [results, Tryz.results54, go_sem, r0, r1, r2]) rfl ?_
              exact OnPost.fin HL.out (RM.refl _ _) ⟨_, _, _, rfl⟩ ⟨_, _, _, rfl⟩ rfl (fun h => by cases h)
            · have HO := Lib.hid (show AS.one st line (AS.dWord :: r) = AS.lay st 2 line 4 (4 * m) r by rw [one_word, if_pos (by omega), hmr])
              have h2' : decide ((m : Int) + 1 < 2) = false := by simp; omega
              have hmc : m + 1 ≤ c ∧ c ≤ maxLen := by
                rcases HL.out.tx with ⟨h, _⟩ | ⟨_, g', o', c', cs, fr, e, h1, h2, h3, h4⟩
                · cases h
                · injection e with e1 e2 e3
                  subst e3
                  rw [List.length_cons, hmr] at h1
                  exact ⟨h1, h2⟩
              unfold maxLen at hmc
              obtain ⟨hmc, hcm⟩ := hmc
              have hc1 : ¬ c = 1 := by omega
              have HLd := Lib.hid (HL.out.below ((Below.refl W0.heap.size W0).drew))
              have HTL : TxR W0.drew (.slice (some ⟨g, o + 1, none⟩) m (c - 1)) r := by have := HLd.out.tx.tail; rwa [hmr] at this
              have HC := Lib.hid (HLay.out W0.drew HLd.out 2 0 4 (4 * m) _ r HTL (by omega) (.inl ⟨.inr rfl, rfl⟩))
              rw [show (((4 * m : Nat)) : Int) = 4 * (m : Int) by omega] at HC
              rw [HO.out]
              clear HLay HTL hw hn hW
              go_enter Tryz.func54, Tryz.ntmps54
              go_upto_region 1 with fail
              clear hW0
              go_upto_region 24 with fail
              go_region_with (go_at_call 99; refine HC.out.mono ?_; rintro e w2 ⟨vi', vn', P, rfl, ⟨a1, n1, c1, rfl⟩, ⟨a2, n2, c2, rfl⟩, rm2, hk2⟩; have HR2 := Lib.hid rm2; have HK2 := Lib.hid hk2; have hkb := HLd.out.kept rm2; have t0 := cell_of (o := 0) hkb rfl; have t1 := cell_of (o := 1) hkb rfl; have t2 := cell_of (o := 2) hkb rfl; have tf := fun o => unfrozen (o := o) hkb; clear rm2 hk2 hkb)
              all_goals
                go_wp2
                refine bodyPost_ret (v := .tuple #[.agg #[.slice a1 n1 c1, .slice a2 n2 c2, .int .i64 P], .int .i64 (AS.lay st 2 line 4 (4 * m) r).1]) (by simp [results, Tryz.results54, go_sem, t0, t1, t2]) rfl ?_
                exact OnPost.fin HLd.out HR2.out ⟨_, _, _, rfl⟩ ⟨_, _, _, rfl⟩ rfl HK2.out
          · have HX2 := Lib.hid h13
            by_cases h14 : d = AS.dByte
            · obtain rfl : D = ⟨#[46, 98, 121, 116, 101]⟩ := bytes_inj (hD1.trans h14)
              subst h14
              clear hr hm hv hx hl hp hN HEqu hdot hdot' hdot'' hPR hne hD hD1 hD2 hDz HPR
              by_cases h2 : m = 0
              · have HO := Lib.hid (show AS.one st line (AS.dByte :: r) = (2, st) by rw [one_byte, if_neg (by omega)])
                have h2' : decide ((m : Int) + 1 < 2) = true := by simp; omega
                rw [HO.out]
                clear HLay
                go_enter Tryz.func54, Tryz.ntmps54
                go_upto_region 1 with fail
                clear hW0
                go_wp2
                refine bodyPost_ret (v := .tuple #[.agg #[.slice ia xs.length ic, .slice na st.names.length nc, .int .i64 st.pos], .int .i64 2]) (by simp [results, Tryz.results54, go_sem, r0, r1, r2]) rfl ?_
                exact OnPost.fin HL.out (RM.refl _ _) ⟨_, _, _, rfl⟩ ⟨_, _, _, rfl⟩ rfl (fun h => by cases h)
              · have HO := Lib.hid (show AS.one st line (AS.dByte :: r) = AS.lay st 3 line 1 (1 * m) r by rw [one_byte, if_pos (by omega), hmr])
                have h2' : decide ((m : Int) + 1 < 2) = false := by simp; omega
                have hmc : m + 1 ≤ c ∧ c ≤ maxLen := by
                  rcases HL.out.tx with ⟨h, _⟩ | ⟨_, g', o', c', cs, fr, e, h1, h2, h3, h4⟩
                  · cases h
                  · injection e with e1 e2 e3
                    subst e3
                    rw [List.length_cons, hmr] at h1
                    exact ⟨h1, h2⟩
                unfold maxLen at hmc
                obtain ⟨hmc, hcm⟩ := hmc
                have hc1 : ¬ c = 1 := by omega
                have HLd := Lib.hid (HL.out.below ((Below.refl W0.heap.size W0).drew))
                have HTL : TxR W0.drew (.slice (some ⟨g, o + 1, none⟩) m (c - 1)) r := by have := HLd.out.tx.tail; rwa [hmr] at this
                have HC := Lib.hid (HLay.out W0.drew HLd.out 3 0 1 (1 * m) _ r HTL (by omega) (.inr ⟨.inl rfl, rfl⟩))
                rw [show (((1 * m : Nat)) : Int) = (m : Int) by omega] at HC
                rw [HO.out]
                clear HLay HTL hw hn hW
                go_enter Tryz.func54, Tryz.ntmps54
                go_upto_region 1 with fail
                clear hW0
                go_upto_region 25 with fail
                go_region_with (go_at_call 99; refine HC.out.mono ?_; rintro e w2 ⟨vi', vn', P, rfl, ⟨a1, n1, c1, rfl⟩, ⟨a2, n2, c2, rfl⟩, rm2, hk2⟩; have HR2 := Lib.hid rm2; have HK2 := Lib.hid hk2; have hkb := HLd.out.kept rm2; have t0 := cell_of (o := 0) hkb rfl; have t1 := cell_of (o := 1) hkb rfl; have t2 := cell_of (o := 2) hkb rfl; have tf := fun o => unfrozen (o := o) hkb; clear rm2 hk2 hkb)
                all_goals
                  go_wp2
                  refine bodyPost_ret (v := .tuple #[.agg #[.slice a1 n1 c1, .slice a2 n2 c2, .int .i64 P], .int .i64 (AS.lay st 3 line 1 (1 * m) r).1]) (by simp [results, Tryz.results54, go_sem, t0, t1, t2]) rfl ?_
                  exact OnPost.fin HLd.out HR2.out ⟨_, _, _, rfl⟩ ⟨_, _, _, rfl⟩ rfl HK2.out
            · have HX3 := Lib.hid h14
              by_cases h15 : d = AS.dEqu
              · obtain rfl : D = ⟨#[46, 101, 113, 117]⟩ := bytes_inj (hD1.trans h15)
                subst h15
                clear hr hm hv hx hl hp hN HLay hdot hdot' hdot'' hPR hne hD hD1 hD2 hDz HPR
                have HO := Lib.hid (one_equ (st := st) (line := line) (r := r))
                rw [HO.out]
                go_enter Tryz.func54, Tryz.ntmps54
                go_upto_region 1 with fail
                clear hW0
                go_wp2_with (go_at_call 101; refine HEqu.out.mono ?_; rintro e w2 ⟨vi', vn', P, rfl, ⟨a1, n1, c1, rfl⟩, ⟨a2, n2, c2, rfl⟩, rm2, hk2⟩; have HR2 := Lib.hid rm2; have HK2 := Lib.hid hk2; have hkb := HL.out.kept rm2; have t0 := cell_of (o := 0) hkb rfl; have t1 := cell_of (o := 1) hkb rfl; have t2 := cell_of (o := 2) hkb rfl; have tf := fun o => unfrozen (o := o) hkb; clear rm2 hk2 hkb)
                refine bodyPost_ret (v := .tuple #[.agg #[.slice a1 n1 c1, .slice a2 n2 c2, .int .i64 P], .int .i64 (eqS st (AS.dEqu :: r)).1]) (by simp [results, Tryz.results54, go_sem, t0, t1, t2]) rfl ?_
                exact OnPost.fin HL.out HR2.out ⟨_, _, _, rfl⟩ ⟨_, _, _, rfl⟩ rfl HK2.out
              · have HX4 := Lib.hid h15
                have HO := Lib.hid (one_none (st := st) (line := line) (r := r) HPR h11 h12 h13 h14 h15)
                obtain ⟨u0, v0⟩ := ne_lit hD1 h11 [46, 111, 114, 103] rfl
                obtain ⟨u1, v1⟩ := ne_lit hD1 h12 [46, 115, 112, 97, 99, 101] rfl
                obtain ⟨u2, v2⟩ := ne_lit hD1 h13 [46, 119, 111, 114, 100] rfl
                obtain ⟨u3, v3⟩ := ne_lit hD1 h14 [46, 98, 121, 116, 101] rfl
                obtain ⟨u4, v4⟩ := ne_lit hD1 h15 [46, 101, 113, 117] rfl
                rw [HO.out]
                clear hr hm hv hn hw hx hl hp hN HLay HEqu hdot hPR hne hD hD1 hD2 hW h11 h12 h13 h14 h15 HPR
                go_enter Tryz.func54, Tryz.ntmps54
                go_upto_region 1 with fail
                clear hW0
                go_wp2
                refine bodyPost_ret (v := .tuple #[.agg #[.slice ia xs.length ic, .slice na st.names.length nc, .int .i64 st.pos], .int .i64 2]) (by simp [results, Tryz.results54, go_sem, r0, r1, r2]) rfl ?_
                exact OnPost.fin HL.out (RM.refl _ _) ⟨_, _, _, rfl⟩ ⟨_, _, _, rfl⟩ rfl (fun h => by cases h)
    · have hdot' : ((D[0].toNat : Int) == 46) = false := by
        rw [beq_eq_false_iff_ne]
        intro e
        exact hdot (UInt8.toNat_inj.1 (by have : D[0].toNat = 46 := by omega
                                          rw [this]; rfl))
      have hdot'' : ((D[0].toNat : Int) != 46) = true := by rw [bne, hdot']; rfl
      have HO := Lib.hid (show AS.one st line (d :: r) = AS.lay st 1 line 4 4 (d :: r) by rw [AS.one, if_pos (by rw [← hD1, hPR]; simpa using hdot)])
      have HC := Lib.hid (HLay.out W0 HL.out 1 0 4 4 _ _ HL.out.tx (by decide) (.inl ⟨.inl rfl, rfl⟩))
      rw [HO.out]
      clear hr hm hv hn hw hx hl hp hN HLay HEqu hdot hPR hne hD hD1 hD2 hW
      go_enter Tryz.func54, Tryz.ntmps54
      go_upto_region 1 with fail
      clear hW0
      go_wp2_with (go_at_call 99; refine HC.out.mono ?_; rintro e w2 ⟨vi', vn', P, rfl, ⟨a1, n1, c1, rfl⟩, ⟨a2, n2, c2, rfl⟩, rm2, hk2⟩; have HR2 := Lib.hid rm2; have HK2 := Lib.hid hk2; have hkb := HL.out.kept rm2; have s0 := cell_of (o := 0) hkb rfl; have s1 := cell_of (o := 1) hkb rfl; have s2 := cell_of (o := 2) hkb rfl; have sf := fun o => unfrozen (o := o) hkb; clear rm2 hk2 hkb)
      refine bodyPost_ret (v := .tuple #[.agg #[.slice a1 n1 c1, .slice a2 n2 c2, .int .i64 P], .int .i64 (AS.lay st 1 line 4 4 (d :: r)).1]) (by simp [results, Tryz.results54, go_sem, s0, s1, s2]) rfl ?_
      exact OnPost.fin HL.out HR2.out ⟨_, _, _, rfl⟩ ⟨_, _, _, rfl⟩ rfl HK2.out
end Go.Proofs.YtcnmnkgnaknpdaaGreatDoor
