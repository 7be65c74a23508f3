/-
  The reference's first going over a program's lines.
  The reference's first going over a program's lines: the walk.
-/
import Derived.Test.YtcnmnkgnaknpdaaGreatDoorGr
import Derived.Test.YtcnmnkgnaknpdaaGreatDoorGc
import Derived.Test.YtcnmnkgnaknpdaaGreatDoorGpf

/-! RfK -/
namespace Go.Proofs.YtcnmnkgnaknpdaaGreatDoor
open Go.RowKit Go.Maps S02 S06 S07
namespace AS
theorem labs_mem : ∀ (W : List (List UInt8)) (p : St) (y : List UInt8), y ∈ (labs p W).2.2 → y ∈ W
  | [], _, _, h => h
  | w :: r, p, y, h => by
    rw [labs] at h
    split at h
    · split at h
      · exact List.mem_cons_of_mem _ (labs_mem r _ y h)
      · exact h
    · exact h
theorem first_ok {l : List UInt8} {r : List (List UInt8)} {k : Nat} {p : St} (h : lineE p k l = 0) : first (l :: r) k p = first r (k + 1) (lineS p k l) := by rw [first, if_pos h]
theorem first_bad {l : List UInt8} {r : List (List UInt8)} {k : Nat} {p : St} (h : ¬ lineE p k l = 0) : first (l :: r) k p = (lineE p k l, k + 1, p) := by rw [first, if_neg h]
end AS
/-- During the reference's first going: k lines are done. -/
structure FB (w wr : World) (ls : List (List UInt8)) (lv : Value) (k : Nat) (st : AS.St) (vi vn : Value) (xs : List (AS.It × Value)) : Prop where
  rb : wr.heap[w.heap.size]? = some (.cells #[.slice none 0 0, .slice none 0 0, .int .i64 0] 70 (0, 0))
  pb : wr.heap[w.heap.size + 1]? = some (.cells #[vi, vn, .int .i64 st.pos] 70 (0, 0))
  rs : RS w.heap.size wr vi vn xs st.names
  im : xs.map (·.1) = st.items
  rm : RM w.heap.size w wr
  tx : TxR wr lv ls
  sp : AS.first ls 0 ⟨[], 0, []⟩ = AS.first (ls.drop k) k st
  ok : AS.Ok st (AS.tot (ls.take k) + k)
  ic : st.items.length ≤ k
def FiPost (w : World) (F : Int × Nat × AS.St) (e : Ending) (w' : World) : Prop :=
  ∃ vi vn P, e = .returned (.tuple #[.agg #[vi, vn, .int .i64 P], .int .i64 F.2.1, .int .i64 F.1]) ∧ (∃ a n c, vi = .slice a n c) ∧ (∃ a n c, vn = .slice a n c) ∧ Below w.heap.size w w' ∧ (F.1 = 0 → ∃ xs, xs.map (·.1) = F.2.2.items ∧ RS w.heap.size w' vi vn xs F.2.2.names)
theorem FB.below {w wr w2 : World} {ls : List (List UInt8)} {lv : Value} {k : Nat} {st : AS.St} {vi vn : Value} {xs : List (AS.It × Value)} (h : FB w wr ls lv k st vi vn xs) (hb : Below wr.heap.size wr w2) : FB w w2 ls lv k st vi vn xs := by
  have hm : RM w.heap.size wr w2 := RM.below hb h.rm.size
  exact ⟨(hb.block _ (lt_of_heap h.rb)).trans h.rb, (hb.block _ (lt_of_heap h.pb)).trans h.pb, h.rs.below hb, h.im, h.rm.trans hm, h.tx.rm hm, h.sp, h.ok, h.ic⟩
/-- The first two blocks over a call that only moves rows. -/
theorem FB.two {w wr w2 : World} {ls : List (List UInt8)} {lv : Value} {k : Nat} {st : AS.St} {vi vn : Value} {xs : List (AS.It × Value)} (h : FB w wr ls lv k st vi vn xs) (hm : RM w.heap.size wr w2) : w2.heap[w.heap.size]? = some (.cells #[.slice none 0 0, .slice none 0 0, .int .i64 0] 70 (0, 0)) ∧ w2.heap[w.heap.size + 1]? = some (.cells #[vi, vn, .int .i64 st.pos] 70 (0, 0)) :=
  ⟨(hm.kind _ _ _ _ h.rb (by decide) (by decide)).trans h.rb, (hm.kind _ _ _ _ h.pb (by decide) (by decide)).trans h.pb⟩
theorem FB.start {w w1 : World} {ls : List (List UInt8)} {lv : Value} (hr : Row ((w.alloc (.cells #[.slice none 0 0, .slice none 0 0, .int .i64 0] 70)).alloc (.cells #[.slice none 0 0, .slice none 0 0, .int .i64 0] 70)) w1 lv ls) : FB w w1 ls lv 0 ⟨[], 0, []⟩ (.slice none 0 0) (.slice none 0 0) [] := by
  have hb2 := below_two w (.cells #[.slice none 0 0, .slice none 0 0, .int .i64 0] 70) (.cells #[.slice none 0 0, .slice none 0 0, .int .i64 0] 70)
  have hb : Below w.heap.size w w1 := hb2.trans (hr.2.mono (by simp; omega))
  have e1 : ((w.alloc (.cells #[.slice none 0 0, .slice none 0 0, .int .i64 0] 70)).alloc (.cells #[.slice none 0 0, .slice none 0 0, .int .i64 0] 70)).heap.size = w.heap.size + 2 := by simp
  refine ⟨?_, ?_, RS.nil _ _, rfl, RM.below hb (Nat.le_refl _), TxR.of_row hr, rfl, ⟨(by decide), fun x hx => (by cases hx), fun pre x suf he => (by simp at he), (by simp)⟩, (by simp)⟩
  · rw [hr.2.block _ (by omega), Below.heap_alloc _ _ _ (by simp)]
    exact heap_alloc_new w _
  · rw [hr.2.block _ (by omega)]
    have := heap_alloc_new (w.alloc (.cells #[.slice none 0 0, .slice none 0 0, .int .i64 0] 70)) (.cells #[.slice none 0 0, .slice none 0 0, .int .i64 0] 70)
    simpa using this
/-- What a line's words are bounded by. -/
theorem FB.line {w wr : World} {ls : List (List UInt8)} {lv : Value} {k : Nat} {st : AS.St} {vi vn : Value} {xs : List (AS.It × Value)} (h : FB w wr ls lv k st vi vn xs) (hk : k < ls.length) (ht : ls.length + AS.tot ls ≤ 65536) :
    (ls.getD k []).length ≤ 65536 ∧ st.pos ≤ 16384 ∧ st.names.length + (NM.wd (AS.code (ls.getD k []))).length ≤ 900000 ∧ (∀ y ∈ NM.wd (AS.code (ls.getD k [])), y ≠ [] ∧ y.length ≤ 200000) ∧ (NM.wd (AS.code (ls.getD k []))).length ≤ 200000 := by
  have h1 := AS.getD_tot ls k
  have h2 := h.ok.nms
  have h3 := AS.tot_take ls k
  have h4 := AS.wd_tot (AS.code (ls.getD k []))
  have h5 := AS.code_le (ls.getD k [])
  exact ⟨by omega, h.ok.pos, by omega, fun y hy => ⟨AS.wd_ne _ y hy, by have := AS.tot_mem hy; omega⟩, by omega⟩
theorem FB.next {w wr w5 : World} {ls : List (List UInt8)} {lv : Value} {k : Nat} {st : AS.St} {vi vn vi' vn' : Value} {xs xs' : List (AS.It × Value)} {P : Int} (h : FB w wr ls lv k st vi vn xs) (hk : k < ls.length) (ht : ls.length + AS.tot ls ≤ 65536) (h0 : AS.lineE st k (ls.getD k []) = 0) (hm : RM w.heap.size wr w5) (hx : xs'.map (·.1) = (AS.lineS st k (ls.getD k [])).items) (hr : RS w.heap.size w5 vi' vn' xs' (AS.lineS st k (ls.getD k [])).names) (hP : P = ((AS.lineS st k (ls.getD k [])).pos : Int)) :
    FB w (((w5.setCell ⟨w.heap.size + 1, 0, none⟩ vi').setCell ⟨w.heap.size + 1, 1, none⟩ vn').setCell ⟨w.heap.size + 1, 2, none⟩ (.int .i64 P)) ls lv (k + 1) (AS.lineS st k (ls.getD k [])) vi' vn' xs' := by
  obtain ⟨b0, b1⟩ := h.two hm
  have c1 := heap_set (o := 0) (v := vi') b1
  have c2 := heap_set (o := 1) (v := vn') c1
  have c3 := heap_set (o := 2) (v := .int .i64 P) c2
  have hl := (h.line hk ht).1
  obtain ⟨g1, g2⟩ := AS.line_ok h.ok (k := k) (l := ls.getD k []) (by omega) h0
  have ge : ls.getD k [] = ls[k] := by rw [List.getD_eq_getElem?_getD, List.getElem?_eq_getElem hk]; rfl
  subst hP
  refine ⟨?_, c3, hr.set3 b1, hx, (((h.rm.trans hm).set (Nat.le_refl _) (Nat.le_succ _)).set (Nat.le_refl _) (Nat.le_succ _)).set (Nat.le_refl _) (Nat.le_succ _), (((h.tx.rm hm).set b1 (by decide)).set c1 (by decide)).set c2 (by decide), ?_, ?_, ?_⟩
  · rw [heap_other (by omega), heap_other (by omega), heap_other (by omega)]
    exact b0
  · rw [h.sp, List.drop_eq_getElem_cons hk, AS.first_ok (by rw [← ge]; exact h0), ge]
  · refine g1.mono ?_
    rw [List.take_succ_eq_append_getElem hk, AS.tot_snoc, ge]
    omega
  · have hic := h.ic
    rcases g2 with g2 | ⟨x, g2, -⟩
    · rw [g2]; omega
    · rw [g2]; simp; omega
theorem FB.bad {w wr w' : World} {ls : List (List UInt8)} {lv : Value} {k : Nat} {st : AS.St} {vi vn : Value} {xs : List (AS.It × Value)} {E : Int} (h : FB w wr ls lv k st vi vn xs) (hk : k < ls.length) (hE : AS.lineE st k (ls.getD k []) = E) (h0 : ¬ E = 0) (hb : Below w.heap.size w w') : FiPost w (AS.first ls 0 ⟨[], 0, []⟩) (.returned (.tuple #[.agg #[vi, vn, .int .i64 st.pos], .int .i64 ((k : Int) + 1), .int .i64 E])) w' := by
  have ge : ls.getD k [] = ls[k] := by rw [List.getD_eq_getElem?_getD, List.getElem?_eq_getElem hk]; rfl
  rw [h.sp, List.drop_eq_getElem_cons hk, AS.first_bad (by rw [← ge, hE]; exact h0), ← ge, hE]
  exact ⟨vi, vn, _, rfl, (by obtain ⟨a, c, e⟩ := own_form h.rs.its; exact ⟨a, _, c, e⟩), (by obtain ⟨a, c, e⟩ := own_form h.rs.nms; exact ⟨a, _, c, e⟩), hb, fun h => absurd h h0⟩
theorem FB.all {w wr : World} {ls : List (List UInt8)} {lv : Value} {st : AS.St} {vi vn : Value} {xs : List (AS.It × Value)} {u0 u1 u2 : Value} (h : FB w wr ls lv ls.length st vi vn xs) : FiPost w (AS.first ls 0 ⟨[], 0, []⟩) (.returned (.tuple #[.agg #[vi, vn, .int .i64 st.pos], .int .i64 0, .int .i64 0])) (((wr.setCell ⟨w.heap.size, 0, none⟩ u0).setCell ⟨w.heap.size, 1, none⟩ u1).setCell ⟨w.heap.size, 2, none⟩ u2) := by
  rw [h.sp, List.drop_length]
  exact ⟨vi, vn, _, rfl, (by obtain ⟨a, c, e⟩ := own_form h.rs.its; exact ⟨a, _, c, e⟩), (by obtain ⟨a, c, e⟩ := own_form h.rs.nms; exact ⟨a, _, c, e⟩), below_set (below_set (below_set h.rm.old (Nat.le_refl _) _) (Nat.le_refl _) _) (Nat.le_refl _) _, fun _ => ⟨xs, h.im, h.rs.set3 h.rb⟩⟩
end Go.Proofs.YtcnmnkgnaknpdaaGreatDoor
/-! RfL -/
namespace Go.Proofs.YtcnmnkgnaknpdaaGreatDoor
open Go.RowKit Go.Maps S02 S06 S07
namespace AS
/-- The first going over a text. -/
def fst (src : List UInt8) : Int × Nat × St := if NM.lE src = 0 then first (NM.lL src) 0 ⟨[], 0, []⟩ else (NM.lE src, 0, ⟨[], 0, []⟩)
end AS
/-- A block behind the program's two in which the line's state lies. -/
structure FX (w wr W : World) (X : Nat) (c : Array Value) : Prop where
  rm : RM w.heap.size wr W
  hX : wr.heap.size ≤ X
  xb : W.heap[X]? = some (.cells c 70 (0, 0))
theorem FX.new {w wr w3 : World} (hN : w.heap.size ≤ wr.heap.size) (hm : RM w.heap.size wr w3) (c : Array Value) : FX w wr (w3.alloc (.cells c 70)) w3.heap.size c :=
  ⟨hm.trans (RM.below ((Below.refl _ w3).alloc (Nat.le_refl _) _) (Nat.le_trans hN hm.size)), hm.size, heap_alloc_new w3 _⟩
theorem FX.call {w wr W w5 : World} {X : Nat} {c : Array Value} (h : FX w wr W X c) (hm : RM w.heap.size W w5) : FX w wr w5 X c :=
  ⟨h.rm.trans hm, h.hX, (hm.kind _ _ _ _ h.xb (by decide) (by decide)).trans h.xb⟩
theorem FX.set {w wr W : World} {X o : Nat} {c : Array Value} {u : Value} (hN : w.heap.size ≤ wr.heap.size) (h : FX w wr W X c) : FX w wr (W.setCell ⟨X, o, none⟩ u) X (c.setIfInBounds o u) :=
  ⟨h.rm.set hN h.hX, h.hX, heap_set h.xb⟩
/-- The labels' answer, laid into a block of its own. -/
def FL (w wr : World) (xs : List (AS.It × Value)) (E : Int) (st' : AS.St) (r : List (List UInt8)) (p t ev : Value) (W : World) : Prop :=
  ∃ X a1 n1 c1 a2 n2 c2 P3 tv, p = .pointer (some ⟨X, 0, none⟩) ∧ tv = t ∧ ev = .int .i64 E ∧ Hid (FX w wr W X #[.slice a1 n1 c1, .slice a2 n2 c2, .int .i64 P3]) ∧ Hid (E = 0 → RS w.heap.size W (.slice a1 n1 c1) (.slice a2 n2 c2) xs st'.names ∧ P3 = (st'.pos : Int) ∧ TxR W tv r)
theorem FL.after {w wr w3 : World} {xs : List (AS.It × Value)} {E : Int} {st' : AS.St} {r : List (List UInt8)} {a1 n1 c1 a2 n2 c2 P3 t} (hN : w.heap.size ≤ wr.heap.size) (hm : RM w.heap.size wr w3) (hk : E = 0 → RS w.heap.size w3 (.slice a1 n1 c1) (.slice a2 n2 c2) xs st'.names ∧ P3 = (st'.pos : Int) ∧ TxR w3 t r) :
    FL w wr xs E st' r (.pointer (some ⟨w3.heap.size, 0, none⟩)) t (.int .i64 E) (w3.alloc (.cells #[.slice a1 n1 c1, .slice a2 n2 c2, .int .i64 P3] 70)) := by
  have hb : Below w3.heap.size w3 (w3.alloc (.cells #[.slice a1 n1 c1, .slice a2 n2 c2, .int .i64 P3] 70)) := (Below.refl _ w3).alloc (Nat.le_refl _) _
  exact ⟨_, a1, n1, c1, a2, n2, c2, P3, t, rfl, rfl, rfl, Lib.hid (FX.new hN hm _), Lib.hid fun h0 => ⟨(hk h0).1.below hb, (hk h0).2.1, (hk h0).2.2.rm (RM.below (N := 0) hb (Nat.zero_le _))⟩⟩
theorem FX.sets {w wr w3 : World} {X : Nat} {v1 v2 v3 u1 u2 u3 : Value} (hN : w.heap.size ≤ wr.heap.size) (h : FX w wr w3 X #[u1, u2, u3]) : FX w wr (((w3.setCell ⟨X, 0, none⟩ v1).setCell ⟨X, 1, none⟩ v2).setCell ⟨X, 2, none⟩ v3) X #[v1, v2, v3] :=
  ((h.set hN).set hN).set hN
theorem FX.txr {w wr w3 : World} {X : Nat} {v1 v2 v3 u1 u2 u3 t : Value} {r : List (List UInt8)} (h : FX w wr w3 X #[u1, u2, u3]) (ht : TxR w3 t r) : TxR (((w3.setCell ⟨X, 0, none⟩ v1).setCell ⟨X, 1, none⟩ v2).setCell ⟨X, 2, none⟩ v3) t r :=
  ((ht.set h.xb (by decide)).set (heap_set h.xb) (by decide)).set (heap_set (heap_set h.xb)) (by decide)
theorem FL.before {w wr w3 : World} {X : Nat} {u1 u2 u3 : Value} {xs : List (AS.It × Value)} {E : Int} {st' : AS.St} {r : List (List UInt8)} {a1 n1 c1 a2 n2 c2 P3 t} (hN : w.heap.size ≤ wr.heap.size) (hm : FX w wr w3 X #[u1, u2, u3]) (hk : E = 0 → RS w.heap.size w3 (.slice a1 n1 c1) (.slice a2 n2 c2) xs st'.names ∧ P3 = (st'.pos : Int) ∧ TxR w3 t r) :
    FL w wr xs E st' r (.pointer (some ⟨X, 0, none⟩)) t (.int .i64 E) (((w3.setCell ⟨X, 0, none⟩ (.slice a1 n1 c1)).setCell ⟨X, 1, none⟩ (.slice a2 n2 c2)).setCell ⟨X, 2, none⟩ (.int .i64 P3)) :=
  ⟨_, a1, n1, c1, a2, n2, c2, P3, t, rfl, rfl, rfl, Lib.hid (hm.sets hN), Lib.hid fun h0 => ⟨(hk h0).1.set3 hm.xb, (hk h0).2.1, hm.txr (hk h0).2.2⟩⟩
/-- The words of a line, found: with the block behind them, or before. -/
theorem FB.words {w wr w2 : World} {ls : List (List UInt8)} {lv : Value} {k : Nat} {st : AS.St} {vi vn : Value} {xs : List (AS.It × Value)} {wv : Value} {l : List (List UInt8)} (h : FB w wr ls lv k st vi vn xs) (hr : Row wr.drew w2 wv l) : FB w w2 ls lv k st vi vn xs ∧ RM w.heap.size wr w2 := by
  have hb : Below wr.heap.size wr w2 := (Below.refl _ wr).drew.trans hr.2
  exact ⟨h.below hb, RM.below hb h.rm.size⟩
theorem FB.words' {w wr w2 : World} {ls : List (List UInt8)} {lv : Value} {k : Nat} {st : AS.St} {vi vn : Value} {xs : List (AS.It × Value)} {wv : Value} {l : List (List UInt8)} {c : Array Value} (h : FB w wr ls lv k st vi vn xs) (hr : Row (wr.alloc (.cells c 70)).drew w2 wv l) : FB w w2 ls lv k st vi vn xs ∧ FX w wr w2 wr.heap.size c := by
  have e : (wr.alloc (.cells c 70)).drew.heap.size = wr.heap.size + 1 := by show (wr.alloc (.cells c 70)).heap.size = _; simp
  have hb : Below wr.heap.size wr w2 := ((Below.refl _ wr).alloc (Nat.le_refl _) _).drew.trans (hr.2.mono (by omega))
  exact ⟨h.below hb, RM.below hb h.rm.size, Nat.le_refl _, by rw [hr.2.block _ (by omega)]; exact heap_alloc_new wr _⟩
set_option maxHeartbeats 8000000 in
theorem rfirst_any (s : ByteArray) (w : World) (hs : s.size ≤ 1000000) : Calls Tryz.prog 25 #[.string s] w (FiPost w (AS.fst s.data.toList)) := by
  have HLN := Lib.hid (fun W0 => rlines_any s W0 hs)
  have HST := Lib.hid (fun (w1 : World) (lv : Value) hr => FB.start (w := w) (w1 := w1) (ls := NM.lL s.data.toList) (lv := lv) hr)
  have HT := Lib.hid (AS.lL_tot s.data.toList)
  obtain ⟨ls, hls⟩ : ∃ ls, NM.lL s.data.toList = ls := ⟨_, rfl⟩
  obtain ⟨E0, hE0⟩ : ∃ E, NM.lE s.data.toList = E := ⟨_, rfl⟩
  have HFS := Lib.hid (show AS.fst s.data.toList = if E0 = 0 then AS.first ls 0 ⟨[], 0, []⟩ else (E0, 0, ⟨[], 0, []⟩) by rw [AS.fst, hls, hE0])
  simp only [hls, hE0] at HST HT HLN
  obtain ⟨F, hF⟩ : ∃ F, AS.fst s.data.toList = F := ⟨_, rfl⟩
  rw [hF] at HFS ⊢
  clear hls hE0 hF
  obtain ⟨n, hn⟩ : ∃ n, ls.length = n := ⟨_, rfl⟩
  have HN := Lib.hid hn
  have hn1 : n ≤ 65536 := by have := HT.out; omega
  clear hn
  go_enter Tryz.func25, Tryz.ntmps25
  go_upto_region 3 with (go_at_call 50; refine (HLN.out _).mono ?_; rintro e w1 ⟨lv, rfl, hr⟩; have HF := Lib.hid (HST.out w1 lv hr); obtain ⟨va, vc, rfl⟩ := own_form hr.1; clear hr; rw [HN.out] at HF)
  clear HST HLN
  by_cases hE : E0 = 0
  · subst hE
    have HFS2 := Lib.hid (HFS.out.trans (if_pos rfl))
    clear HFS
    rw [HN.out]
    go_wp2
    go_loopw [8] (fun i wr => ∃ k : Nat, k ≤ n ∧ i = .int .i64 k ∧ ∃ st vi vn xs, Hid (FB w wr ls (.slice va n vc) k st vi vn xs)) (fun i _ => n - (intOf i).toNat)
    case atStart => exact ⟨0, by omega, rfl, _, _, _, _, HF⟩
    case round =>
      obtain ⟨k, hk, rfl, st, vi, vn, xs, hR⟩ := hrel
      clear HF
      obtain ⟨ia, ic, rfl⟩ := own_form hR.out.rs.its
      obtain ⟨na, nc, rfl⟩ := own_form hR.out.rs.nms
      have HNR := Lib.hid hR.out.rm.size
      by_cases hlt : k < n
      · have hlt' : decide (k < n) = true := by simpa using hlt
        have HLT := Lib.hid (show k < ls.length by rw [HN.out]; exact hlt)
        have hne : ls ≠ [] := by intro h; have := HLT.out; rw [h] at this; simp at this
        obtain ⟨g, o, c', e⟩ := txr_form hR.out.tx hne
        injection e with e1 e2 e3
        subst e1 e3
        obtain ⟨S, hS, hS1, hS2⟩ := bt_of (ls.getD k [])
        have g0 := hR.out.tx.cellOf hne k HLT.out
        have gc : wr.cell? ⟨g, o + k, none⟩ = some (.string S) := by rw [g0, ← hS]; rfl
        obtain ⟨l1, l2, l3, l4, l5⟩ := hR.out.line HLT.out HT.out
        obtain ⟨E, st', r, hlab⟩ : ∃ E st' r, AS.labs st (NM.wd (AS.code (ls.getD k []))) = (E, st', r) := ⟨_, _, _, rfl⟩
        have HSz := Lib.hid (show S.size ≤ 65536 by rw [hS2]; exact l1)
        have HC := Lib.hid (fun W => rcode_any S W (by have := HSz.out; omega))
        rw [hS1] at HC
        have HLb := Lib.hid (fun (W : World) (v : Value) (hN : w.heap.size ≤ W.heap.size) (hr : RS w.heap.size W (.slice ia xs.length ic) (.slice na st.names.length nc) xs st.names) (hv : TxR W v (NM.wd (AS.code (ls.getD k [])))) => rlabels_any hN hr hv l3 l4 l2)
        rw [hlab] at HLb
        have HBd := Lib.hid (fun (h0 : ¬ E = 0) (w' : World) hb => hR.out.bad (w' := w') HLT.out (AS.line_err hlab h0) h0 hb)
        have HKp := AS.labs_keep (NM.wd (AS.code (ls.getD k []))) st
        have HMm := AS.labs_mem (NM.wd (AS.code (ls.getD k []))) st
        rw [hlab] at HKp HMm
        obtain ⟨kp1, kp2, kp3, kp4⟩ := HKp
        have HON := Lib.hid (fun (W : World) (vi vn v : Value) (hN : w.heap.size ≤ W.heap.size) (hr : RS w.heap.size W vi vn xs st'.names) (hv : TxR W v r) => rone_any (st := st') (k + 1) hN hr (hR.out.im.trans kp1.symm) hv (Nat.le_trans (show st'.names.length + r.length ≤ _ from kp3) l3) (fun y hy => l4 y (HMm y hy)) (by rw [show st'.items = st.items from kp1]; exact fun x hx => (hR.out.ok.its x hx).1) (by rw [show st'.items = st.items from kp1]; have := hR.out.ic; omega) (by rw [show st'.pos = st.pos from kp2]; exact l2) (by have h := AS.wd_tot (AS.code (ls.getD k [])); have h5 := AS.code_le (ls.getD k []); have h6 : r.length + AS.tot r ≤ _ := kp4; omega))
        have HLE := Lib.hid (fun (h0 : E = 0) => AS.line_end (st := st) (k := k) (l := ls.getD k []) (h0 ▸ hlab))
        have HPd := Lib.hid (show st'.pos = st.pos from kp2)
        clear g0 hS hS1 hS2 l1 l2 l3 l4 l5 e2 hne hlab kp1 kp2 kp3 kp4 HMm
        have p0 := cell_of (o := 0) hR.out.pb rfl
        have p1 := cell_of (o := 1) hR.out.pb rfl
        have p2 := cell_of (o := 2) hR.out.pb rfl
        have pa0 : ∀ ob, (wr.alloc ob).cell? ⟨w.heap.size + 1, 0, none⟩ = _ := fun ob => cell_below ((Below.refl _ wr).alloc (Nat.le_refl _) ob) p0
        have pa1 : ∀ ob, (wr.alloc ob).cell? ⟨w.heap.size + 1, 1, none⟩ = _ := fun ob => cell_below ((Below.refl _ wr).alloc (Nat.le_refl _) ob) p1
        have pa2 : ∀ ob, (wr.alloc ob).cell? ⟨w.heap.size + 1, 2, none⟩ = _ := fun ob => cell_below ((Below.refl _ wr).alloc (Nat.le_refl _) ob) p2
        have ga : ∀ ob, (wr.alloc ob).cell? ⟨g, o + k, none⟩ = _ := fun ob => cell_below ((Below.refl _ wr).alloc (Nat.le_refl _) ob) gc
        go_upto_region 8 with fail
        go_cut [9, 10, 11] from 28 to 40 (FL w wr xs E st' r)
        case first =>
          go_region_with (first
            | (go_at_call 53; refine (HC.out _).mono ?_; rintro e w1 ⟨⟨C, rfl, hC1, hC2⟩, rfl⟩; have HC1 := Lib.hid hC1; have HC2 := Lib.hid hC2; clear hC1 hC2)
            | (go_at_call 52
               go_loud (refine (rwords_any C _ (by have := HC2.out; have := HSz.out; omega)).mono ?_; rintro e w2 ⟨wv, rfl, hrow⟩; have HRw := Lib.hid (HC1.out ▸ TxR.of_row hrow); first | ((with_reducible have hw2 := hR.out.words' hrow); obtain ⟨hf2, hm2⟩ := hw2; have HF2 := Lib.hid hf2; have HX2 := Lib.hid hm2; clear hf2 hm2) | ((with_reducible have hw2 := hR.out.words hrow); obtain ⟨hf2, hm2⟩ := hw2; have HF2 := Lib.hid hf2; have HM2 := Lib.hid hm2; clear hf2 hm2))
               clear hrow; have q0 := cell_of (o := 0) HF2.out.pb rfl; have q1 := cell_of (o := 1) HF2.out.pb rfl; have q2 := cell_of (o := 2) HF2.out.pb rfl; have qa0 := fun ob => cell_below ((Below.refl _ w2).alloc (Nat.le_refl _) ob) q0; have qa1 := fun ob => cell_below ((Below.refl _ w2).alloc (Nat.le_refl _) ob) q1; have qa2 := fun ob => cell_below ((Below.refl _ w2).alloc (Nat.le_refl _) ob) q2)
            | (go_at_call 51
               first
                 | (refine (HLb.out w2 wv HF2.out.rm.size HF2.out.rs HRw.out).mono ?_; rintro e w3 ⟨vi3, vn3, tv, P3, rfl, ⟨a1, n1, c1, rfl⟩, ⟨a2, n2, c2, rfl⟩, rm3, hk3⟩; have HK3 := Lib.hid hk3; first | (have HX3 := Lib.hid (HX2.out.call rm3); have y0 := cell_of (o := 0) HX3.out.xb rfl; have y1 := cell_of (o := 1) HX3.out.xb rfl; have y2 := cell_of (o := 2) HX3.out.xb rfl; have yf := fun o => unfrozen (o := o) HX3.out.xb) | (have HR3 := Lib.hid (HM2.out.trans rm3))
                    clear rm3 hk3)
                 | (have hba : Below w2.heap.size w2 (w2.alloc (.cells #[.slice none 0 0, .slice none 0 0, .int .i64 0] 70)) := (Below.refl _ w2).alloc (Nat.le_refl _) _
                    refine (HLb.out _ wv (Nat.le_trans HF2.out.rm.size hba.size) (HF2.out.rs.below hba) (HRw.out.rm (RM.below (N := 0) hba (Nat.zero_le _)))).mono ?_; rintro e w3 ⟨vi3, vn3, tv, P3, rfl, ⟨a1, n1, c1, rfl⟩, ⟨a2, n2, c2, rfl⟩, rm3, hk3⟩; have HK3 := Lib.hid hk3; have HX3 := Lib.hid ((FX.new HNR.out HM2.out _).call rm3); have y0 := cell_of (o := 0) HX3.out.xb rfl; have y1 := cell_of (o := 1) HX3.out.xb rfl; have y2 := cell_of (o := 2) HX3.out.xb rfl; have yf := fun o => unfrozen (o := o) HX3.out.xb
                    clear rm3 hk3 hba)))
          all_goals
            go_wp2_with fail
            go_meet
            case rel => first | exact FL.before HNR.out HX3.out HK3.out | exact FL.after HNR.out HR3.out HK3.out
        case rest =>
          obtain ⟨X, a1, n1, c1, a2, n2, c2, P3, tv, rfl, rfl, rfl, HX, HK⟩ := hcut
          obtain ⟨d0, d1⟩ := hR.out.two HX.out.rm
          have r0 := cell_of (o := 0) d0 rfl
          have r1 := cell_of (o := 1) d0 rfl
          have r2 := cell_of (o := 2) d0 rfl
          have rf := fun o => unfrozen (o := o) d0
          have q0 := cell_of (o := 0) d1 rfl
          have q1 := cell_of (o := 1) d1 rfl
          have q2 := cell_of (o := 2) d1 rfl
          have x0 := cell_of (o := 0) HX.out.xb rfl
          have x1 := cell_of (o := 1) HX.out.xb rfl
          have x2 := cell_of (o := 2) HX.out.xb rfl
          have HDw := Lib.hid (hR.out.rm.trans HX.out.rm).old
          clear d0 d1 p0 p1 p2 gc HC HLb pa0 pa1 pa2 ga
          by_cases hE : E = 0
          · subst hE
            obtain ⟨k1, rfl, k3⟩ := HK.out rfl
            have HO := HON.out wc _ _ tv (Nat.le_trans HNR.out HX.out.rm.size) k1 k3
            rw [show (((k + 1 : Nat)) : Int) = (k : Int) + 1 by omega] at HO
            obtain ⟨L1, L2⟩ := HLE.out rfl
            obtain ⟨E5, st5, hone⟩ : ∃ E5 st5, AS.one st' (k + 1) r = (E5, st5) := ⟨_, _, rfl⟩
            rw [hone] at HO L1 L2
            have HO := Lib.hid HO
            have HL1 := Lib.hid L1
            have HL2 := Lib.hid L2
            clear hone L1 L2 k1 k3 HK HON HBd HLE
            by_cases h5 : E5 = 0
            · subst h5
              go_wp2_with (go_at_call 54; refine HO.out.mono ?_; rintro e w5 ⟨vi5, vn5, P5, rfl, ⟨g1, m1, f1, rfl⟩, ⟨g2, m2, f2, rfl⟩, rm5, hk5⟩; have HK5 := Lib.hid hk5; have HX5 := Lib.hid (HX.out.call rm5); have z0 := cell_of (o := 0) HX5.out.xb rfl; have z1 := cell_of (o := 1) HX5.out.xb rfl; have z2 := cell_of (o := 2) HX5.out.xb rfl; have zf := fun o => unfrozen (o := o) HX5.out.xb; obtain ⟨d0, d1⟩ := hR.out.two (HX5.out.sets (v1 := .slice g1 m1 f1) (v2 := .slice g2 m2 f2) (v3 := .int .i64 P5) HNR.out).rm; have i0 := cell_of (o := 0) d1 rfl; have i1 := cell_of (o := 1) d1 rfl; have i2 := cell_of (o := 2) d1 rfl; have pf := fun o => unfrozen (o := o) d1; clear d0 d1 rm5 hk5)
              go_roundw
              case rel =>
                obtain ⟨xs5, j1, j2, j3⟩ := HK5.out (by simp)
                have hS : AS.lineS st k (ls.getD k []) = st5 := HL2.out
                exact ⟨k + 1, by omega, by go_num, _, _, _, xs5, Lib.hid (hR.out.next HLT.out HT.out HL1.out (HX5.out.sets HNR.out).rm (by rw [hS]; exact j1) (by rw [hS]; exact j2.set3 HX5.out.xb) (by rw [hS]; exact j3))⟩
              case measure => simp [intOf]; omega
            · have e1 : (E5 == 0) = false := by simp [h5]
              have e2 : (E5 != 0) = true := by simp [h5]
              have HH5 := Lib.hid h5
              clear h5
              go_wp2_with (go_at_call 54; refine HO.out.mono ?_; rintro e w5 ⟨vi5, vn5, P5, rfl, ⟨g1, m1, f1, rfl⟩, ⟨g2, m2, f2, rfl⟩, rm5, hk5⟩; have HX5 := Lib.hid (HX.out.call rm5); have z0 := cell_of (o := 0) HX5.out.xb rfl; have z1 := cell_of (o := 1) HX5.out.xb rfl; have z2 := cell_of (o := 2) HX5.out.xb rfl; have zf := fun o => unfrozen (o := o) HX5.out.xb; obtain ⟨d0, d1⟩ := hR.out.two (HX5.out.sets (v1 := .slice g1 m1 f1) (v2 := .slice g2 m2 f2) (v3 := .int .i64 P5) HNR.out).rm; have i0 := cell_of (o := 0) d1 rfl; have i1 := cell_of (o := 1) d1 rfl; have i2 := cell_of (o := 2) d1 rfl; have l0 := cell_of (o := 0) d0 rfl; have l1 := cell_of (o := 1) d0 rfl; have l2 := cell_of (o := 2) d0 rfl; have lf := fun o => unfrozen (o := o) d0; clear d0 d1 rm5 hk5)
              refine bodyPost_ret (v := .tuple #[.agg #[.slice ia xs.length ic, .slice na st.names.length nc, .int .i64 st.pos], .int .i64 ((k : Int) + 1), .int .i64 E5]) (by simp [results, Tryz.results25, go_sem, l0, l1, l2]) rfl ?_
              rw [HFS2.out]
              exact hR.out.bad HLT.out HL1.out HH5.out (below_set (below_set (below_set (hR.out.rm.trans (HX5.out.sets HNR.out).rm).old (Nat.le_refl _) _) (Nat.le_refl _) _) (Nat.le_refl _) _)
          · have e1 : (E == 0) = false := by simp [hE]
            have e2 : (E != 0) = true := by simp [hE]
            have HH := Lib.hid hE
            clear hE
            go_wp2
            refine bodyPost_ret (v := .tuple #[.agg #[.slice ia xs.length ic, .slice na st.names.length nc, .int .i64 st.pos], .int .i64 ((k : Int) + 1), .int .i64 E]) (by simp [results, Tryz.results25, go_sem, r0, r1, r2]) rfl ?_
            rw [HFS2.out]
            exact HBd.out HH.out _ (below_set (below_set (below_set HDw.out (Nat.le_refl _) _) (Nat.le_refl _) _) (Nat.le_refl _) _)
      · have hlt' : decide (k < n) = false := by simpa using hlt
        obtain rfl : k = n := by omega
        have p0 := cell_of (o := 0) hR.out.pb rfl
        have p1 := cell_of (o := 1) hR.out.pb rfl
        have p2 := cell_of (o := 2) hR.out.pb rfl
        have r0 := cell_of (o := 0) hR.out.rb rfl
        have r1 := cell_of (o := 1) hR.out.rb rfl
        have r2 := cell_of (o := 2) hR.out.rb rfl
        have rf := fun o => unfrozen (o := o) hR.out.rb
        have HA := Lib.hid (fun u0 u1 u2 => FB.all (u0 := u0) (u1 := u1) (u2 := u2) (by rw [HN.out]; exact hR.out : FB w wr ls (.slice (va) k vc) ls.length st (.slice ia xs.length ic) (.slice na st.names.length nc) xs))
        clear hlt hk
        go_wp2
        refine bodyPost_ret (v := .tuple #[.agg #[.slice ia xs.length ic, .slice na st.names.length nc, .int .i64 st.pos], .int .i64 0, .int .i64 0]) (by simp [results, Tryz.results25, go_sem, r0, r1, r2]) rfl ?_
        rw [HFS2.out]
        exact HA.out _ _ _
  · have HFS2 := Lib.hid (HFS.out.trans (if_neg hE))
    have e1 : (E0 == 0) = false := by simp [hE]
    have e2 : (E0 != 0) = true := by simp [hE]
    have HH := Lib.hid hE
    clear HFS hE
    have p0 := cell_of (o := 0) HF.out.pb rfl
    have p1 := cell_of (o := 1) HF.out.pb rfl
    have p2 := cell_of (o := 2) HF.out.pb rfl
    have r0 := cell_of (o := 0) HF.out.rb rfl
    have r1 := cell_of (o := 1) HF.out.rb rfl
    have r2 := cell_of (o := 2) HF.out.rb rfl
    have rf := fun o => unfrozen (o := o) HF.out.rb
    go_wp2
    refine bodyPost_ret (v := .tuple #[.agg #[.slice none 0 0, .slice none 0 0, .int .i64 0], .int .i64 0, .int .i64 E0]) (by simp [results, Tryz.results25, go_sem, r0, r1, r2]) rfl ?_
    rw [HFS2.out]
    exact ⟨_, _, _, rfl, ⟨_, _, _, rfl⟩, ⟨_, _, _, rfl⟩, below_set (below_set (below_set HF.out.rm.old (Nat.le_refl _) _) (Nat.le_refl _) _) (Nat.le_refl _) _, fun h => absurd h HH.out⟩
end Go.Proofs.YtcnmnkgnaknpdaaGreatDoor
