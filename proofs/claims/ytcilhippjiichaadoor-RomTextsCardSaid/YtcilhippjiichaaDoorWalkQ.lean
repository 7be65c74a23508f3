/-
  Segments in rows of one's own: a segment more, bytes more; what stays as it was. No condition of its own.
-/
import Derived.Test.YtcilhippjiichaaDoorMathD
import Derived.Deep.AppendLies
namespace Go.Proofs.YtcilhippjiichaaDoor
open Go.RowKit Go.Maps S02
theorem seg_info : (Tryd.prog.info? 51).map (fun i => (i.zero, i.size, i.bytes)) = some (some (.agg #[.int .u32 0, .slice none 0 0]), 2, 32) := by kernel_rfl
/-- What lies below a block stays, and what is neither a segment nor a byte stays. -/
structure Kp (N : Nat) (w w' : World) : Prop where
  old : Below N w w'
  rest : ∀ (k : Nat) (c : Array Value) (e : TypeId) (f : Nat × Nat), w.heap[k]? = some (Obj.cells c e f) → e ≠ 51 → e ≠ 5 → w'.heap[k]? = w.heap[k]?
theorem Kp.refl (N : Nat) (w : World) : Kp N w w := ⟨Below.refl _ _, fun _ _ _ _ _ _ _ => rfl⟩
theorem Kp.of {N : Nat} {w w' : World} (h : Below w.heap.size w w') (hN : N ≤ w.heap.size) : Kp N w w' := ⟨h.mono hN, fun k _ _ _ hk _ _ => h.block k (lt_of_heap hk)⟩
theorem Kp.trans {N : Nat} {w w' w'' : World} (h : Kp N w w') (h' : Kp N w' w'') : Kp N w w'' :=
  ⟨h.old.trans h'.old, fun k c e f hk h1 h2 => (h'.rest k c e f ((h.rest k c e f hk h1 h2).trans hk) h1 h2).trans (h.rest k c e f hk h1 h2)⟩
theorem Kp.heap {N : Nat} {w w' : World} (h : Kp N w w') {k : Nat} {c : Array Value} {e : TypeId} {f : Nat × Nat} (hk : w.heap[k]? = some (.cells c e f)) (h1 : e ≠ 51) (h2 : e ≠ 5) : w'.heap[k]? = some (.cells c e f) := (h.rest k c e f hk h1 h2).trans hk
/-- A row grows. -/
theorem Kp.grown {N e0 size n : Nat} {w w1 : World} {v : Value} {xs : List Value} (hg : w.grownBy w1 v.ownBlock) (ho : w.ownsRow N e0 size v n xs) (he : e0 = 51 ∨ e0 = 5) (hN : N ≤ w.heap.size) : Kp N w w1 :=
  ⟨(Below.refl _ _).grown hg hN fun k hk => (own_lt ho hk).1, fun k c e f hk h1 h2 => hg.block k (lt_of_heap hk) fun e' => by
    obtain ⟨_, _, c', hc'⟩ := own_lt ho e'.symm
    rcases he with rfl | rfl
    · exact kind_ne hk hc' h1 rfl
    · exact kind_ne hk hc' h2 rfl⟩
theorem Kp.set {N k o : Nat} {w w1 : World} (h : Kp N w w1) (hk : N ≤ k) (u : Value) (hkind : ∀ c e f, w.heap[k]? = some (Obj.cells c e f) → e = 51 ∨ e = 5) : Kp N w (w1.setCell ⟨k, o, none⟩ u) :=
  ⟨h.old.setCell hk _, fun j c e f hj h1 h2 => (heap_other (by
    rintro rfl
    rcases hkind c e f hj with h3 | h3
    · exact h1 h3
    · exact h2 h3)).trans (h.rest j c e f hj h1 h2)⟩
theorem own_kp {N B size n e0 : Nat} {w w' : World} {v : Value} {xs : List Value} (h : w.ownsRow B e0 size v n xs) (hk : Kp N w w') (h1 : e0 ≠ 51) (h2 : e0 ≠ 5) : w'.ownsRow B e0 size v n xs := own_keep h fun k hb => by
  obtain ⟨_, _, c, hc⟩ := own_lt h hb
  exact hk.rest k c _ _ hc h1 h2
/-- A segment more. -/
theorem SG.seg {N : Nat} {w w1 : World} {v v' dv : Value} {ps : List (Nat × Value × List UInt8)} {a : Nat} {bs : List UInt8} (h : SG N w v ps) (hg : w.grownBy w1 v.ownBlock) (ho : w1.ownsRow N 51 2 v' (ps.length + 1) (sgC ps ++ [.int .u32 a, dv])) (hd : w.ownsRow N 5 1 dv bs.length (byC bs)) (hM : ∀ k, dv.ownBlock = some k → ∀ p ∈ ps, p.2.1.ownBlock ≠ some k) : SG N w1 v' (ps ++ [(a, dv, bs)]) := by
  have kp : ∀ (d : Value) (m : Nat) (xs : List Value), w.ownsRow N 5 1 d m xs → w1.ownsRow N 5 1 d m xs := fun d m xs hd => by
    refine own_keep hd fun k hk => hg.block k (own_lt hd hk).2.1 ?_
    intro e
    obtain ⟨_, _, c, hc⟩ := own_lt hd hk
    obtain ⟨_, _, c', hc'⟩ := own_lt h.own e.symm
    exact kind_ne hc hc' (by decide) rfl
  refine ⟨?_, fun p hp => ?_, ?_⟩
  · rw [sgC_snoc, List.length_append]; exact ho
  · rcases List.mem_append.1 hp with hp | hp
    · exact kp _ _ _ (h.dat p hp)
    · rw [List.mem_singleton] at hp; subst hp; exact kp _ _ _ hd
  · rw [List.pairwise_append]
    refine ⟨h.sep, List.pairwise_singleton _ _, fun x hx y hy k hk => ?_⟩
    rw [List.mem_singleton] at hy; subst hy
    exact fun e => hM k e x hx hk
/-- Bytes more, behind the last segment's. -/
theorem SG.more {N : Nat} {w w1 : World} {G n c : Nat} {dv dv' : Value} {ps : List (Nat × Value × List UInt8)} {a i : Nat} {bs bs' : List UInt8} (h : SG N w (.slice (some ⟨G, 0, none⟩) n c) (ps ++ [(a, dv, bs)])) (hn : ps.length + 1 = n) (hg : w.grownBy w1 dv.ownBlock) (ho : w1.ownsRow N 5 1 dv' (bs.length + bs'.length) (byC bs ++ byC bs')) (hv : dv'.ownBlock = dv.ownBlock ∨ dv'.ownBlock = some w.heap.size) (hi : i = 2 * ps.length + 1) :
    SG N (w1.setCell ⟨G, i, none⟩ dv') (.slice (some ⟨G, 0, none⟩) n c) (ps ++ [(a, dv', bs ++ bs')]) ∧ w1.cell? ⟨G, i, none⟩ = some dv ∧ w1.frozen? ⟨G, i, none⟩ = false ∧ N ≤ G ∧ (∃ cs, w.heap[G]? = some (.cells cs 51 (0, 0))) := by
  subst hn hi
  obtain ⟨G1, G2, cs, hG⟩ := own_lt h.own rfl
  have hd : w.ownsRow N 5 1 dv bs.length (byC bs) := h.dat (a, dv, bs) (by simp)
  have kp : ∀ (k : Nat) (c' : Array Value) (e : TypeId) (f : Nat × Nat), w.heap[k]? = some (Obj.cells c' e f) → dv.ownBlock ≠ some k → w1.heap[k]? = w.heap[k]? := fun k c' e f hk hne => hg.block k (lt_of_heap hk) (fun e => hne e.symm)
  have hGne : dv.ownBlock ≠ some G := fun e => by
    obtain ⟨_, _, c', hc'⟩ := own_lt hd e
    exact kind_ne hG hc' (by decide) rfl
  have hG1 : w1.heap[G]? = some (.cells cs 51 (0, 0)) := (kp G _ _ _ hG hGne).trans hG
  have hs := List.pairwise_append.1 h.sep
  obtain ⟨_, c2, _⟩ := h.cell (by simp) (j := ps.length) (p := (a, dv, bs)) (by simp)
  refine ⟨⟨?_, fun p hp => ?_, ?_⟩, (World.cell?_of_block (w := w) (a := ⟨G, 2 * ps.length + 1, none⟩) (kp G _ _ _ hG hGne)).trans c2, unfrozen hG1, G1, cs, hG⟩
  · have h1 : w1.ownsRow N 51 2 (.slice (some ⟨G, 0, none⟩) (ps.length + 1) c) (ps ++ [(a, dv, bs)]).length (sgC (ps ++ [(a, dv, bs)])) := own_keep h.own fun k hk => by
      simp only [Value.ownBlock, Option.some.injEq] at hk
      subst hk
      exact kp G _ _ _ hG hGne
    rw [List.length_append, List.length_singleton] at h1
    have h2 := (h1.stored (2 * ps.length + 1) dv').1
    rw [sgC_set ps a dv dv' bs (bs ++ bs')] at h2
    rw [List.length_append, List.length_singleton]
    exact h2
  · have h' : w1.ownsRow N 5 1 p.2.1 p.2.2.length (byC p.2.2) := by
      rcases List.mem_append.1 hp with hp | hp
      · refine own_keep (h.dat p (List.mem_append_left _ hp)) fun k hk => ?_
        obtain ⟨_, _, c', hc'⟩ := own_lt (h.dat p (List.mem_append_left _ hp)) hk
        exact kp k _ _ _ hc' (hs.2.2 p hp (a, dv, bs) (by simp) k hk)
      · rw [List.mem_singleton] at hp
        subst hp
        rw [byC_app, List.length_append]
        exact ho
    refine own_keep h' fun k hk => ?_
    obtain ⟨_, _, c', hc'⟩ := own_lt h' hk
    exact heap_other (kind_ne hc' hG1 (by decide))
  · rw [List.pairwise_append]
    refine ⟨hs.1, List.pairwise_singleton _ _, fun x hx y hy k hk => ?_⟩
    rw [List.mem_singleton] at hy
    subst hy
    rcases hv with hv | hv
    · rw [hv]; exact hs.2.2 x hx (a, dv, bs) (by simp) k hk
    · rw [hv]
      have := (own_lt (h.dat x (List.mem_append_left _ hx)) hk).2.1
      intro e
      injection e with e
      omega
theorem two_new (w : World) (x y : Value) (t : TypeId) : ∀ j u, [x, y][j]? = some u → (w.alloc (.cells #[x, y] t)).cell? ((⟨w.heap.size, 0, none⟩ : Addr).add j) = some u := by
  intro j u hj
  match j, hj with
  | 0, hj => simp at hj; subst hj; simp [Addr.add]
  | 1, hj => simp at hj; subst hj; simp [Addr.add]
theorem seg_one (a : Nat) (A : Option Addr) (n c : Nat) : ∀ z ∈ [Value.int .u32 a, .slice A n c], z.oneCell' = true := by
  intro z hz
  simp at hz
  rcases hz with rfl | rfl <;> rfl
/-- What added leaves. -/
def AaPost (N : Nat) (w : World) (x : RM.Ln) (st : Nat) (l : List (Nat × List UInt8)) (e : Ending) (w' : World) : Prop :=
  ∃ v ps, e = .returned (.agg #[.int .u32 (if x.k = 3 then x.a else st : Nat), v]) ∧ SG N w' v ps ∧ ps.map (fun p => (p.1, p.2.2)) = RM.ad x l ∧ Kp N w w'
theorem SG.split {N : Nat} {w : World} {l : List (Nat × List UInt8)} {a : Nat} {bs : List UInt8} {v : Value} {ps : List (Nat × Value × List UInt8)} (_h : SG N w v ps) (hs : ps.map (fun p => (p.1, p.2.2)) = l ++ [(a, bs)]) : ∃ qs dv, ps = qs ++ [(a, dv, bs)] ∧ qs.map (fun p => (p.1, p.2.2)) = l := by
  rcases List.eq_nil_or_concat ps with rfl | ⟨qs, ⟨a', dv, bs'⟩, rfl⟩
  · simp at hs
  · rw [List.concat_eq_append] at hs ⊢
    rw [List.map_append] at hs
    obtain ⟨h1, h2⟩ := List.append_inj' hs rfl
    simp at h2
    obtain ⟨rfl, rfl⟩ := h2
    exact ⟨qs, dv, rfl, h1⟩
end Go.Proofs.YtcilhippjiichaaDoor
