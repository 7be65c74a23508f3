/-
  Bytes appended to a row of one's own; a copy of bytes. No condition but lengths.
-/
import Derived.Test.YtbeenmglgdhbjaaS10WalkB
import Derived.RegionTactic
import Derived.Lib.SliceRun
namespace Go.Proofs.Ytbeenmglgdhbjaa.S10
open Go.RowKit Go.Maps S01
theorem add_plain (b o j : Nat) : (⟨b, o, none⟩ : Addr).add j = ⟨b, o + j, none⟩ := by simp [Addr.add]
theorem own_new (w : World) : (w.alloc (.cells #[] 5)).ownsRow w.heap.size 5 1 (.slice (some ⟨w.heap.size, 0, none⟩) 0 0) 0 [] := by
  refine ⟨rfl, .inr ⟨w.heap.size, 0, #[], rfl, Nat.le_refl _, heap_alloc_new w _, Nat.le_refl _, by unfold maxLen; omega, rfl, rfl⟩⟩
/-- What appending bytes to a row of one's own does. -/
theorem append_by (w : World) {base n : Nat} {v x : Value} {xs : List Value} {bs : List UInt8} (ty : TypeId) (own : w.ownsRow base 5 1 v n xs) (hx : ByR w x bs) (h : n + bs.length ≤ 100000000) (hbase : base ≤ w.heap.size) :
    ∃ v' w', (Builtin.append_ #[22, 22] ty #[v, x]).run Try.prog w = .ok v' w' ∧ w'.ownsRow base 5 1 v' (n + bs.length) (xs ++ byC bs) ∧ w.grownBy w' v.ownBlock ∧ (v'.ownBlock = v.ownBlock ∨ v'.ownBlock = some w.heap.size) := by
  obtain ⟨i, hi, hz, hs, hb⟩ := info_parts info5
  have hm : n + bs.length ≤ maxLen := by unfold maxLen; omega
  have some_ : ∀ (a : Addr) (c : Nat), x = .slice (some a) bs.length c → (∀ j u, (byC bs)[j]? = some u → w.cell? (a.add j) = some u) → ∃ v' w', (Builtin.append_ #[22, 22] ty #[v, x]).run Try.prog w = .ok v' w' ∧ w'.ownsRow base 5 1 v' (n + bs.length) (xs ++ byC bs) ∧ w.grownBy w' v.ownBlock ∧ (v'.ownBlock = v.ownBlock ∨ v'.ownBlock = some w.heap.size) := fun a c e hc => by
    subst e
    obtain ⟨v', w', h1, h2, h3, -, h4⟩ := run_append_own_at (P := Try.prog) w base 22 ty 5 i _ 1 1 Try.underlying22 hi hz hs hb rfl (by decide) v n xs own a bs.length c (byC bs) (by rw [byC_len]; omega) hc (byC_one bs) hm (by omega) hbase
    exact ⟨v', w', h1, h2, h3, h4⟩
  rcases hx with ⟨rfl, A, c, rfl⟩ | ⟨-, g, o, c, rfl, -, -, h3⟩
  · cases A with
    | some a => exact some_ a c rfl (fun j u hu => by simp [byC] at hu)
    | none =>
      refine ⟨v, w, ?_, by simpa [byC] using own, World.grownBy.refl w _, .inl rfl⟩
      rcases own.2 with ⟨rfl, rfl⟩ | ⟨g, cap, cur, rfl, -, -, hnc, -⟩
      all_goals simp [Builtin.append_, run_underlying Try.underlying22, sizeOf, typeInfo, hi, Builtin.lenOf, Builtin.firstCells]
      simp [hnc, storeCells]
  · refine some_ _ c rfl fun j u hu => ?_
    obtain ⟨hj, rfl⟩ := byC_get hu
    rw [add_plain]
    exact h3 j hj
section
variable {ops : Array Oper} {rest : List Oper} {o : Oper} {a : Act} {w : World} {base n : Nat} {v x : Value} {xs : List Value} {bs : List UInt8}
theorem wp_append_by {K : Act → World → Prop} {Q : Exit → Act → World → Prop} (p q : Operand) (ho : o.op = .call { callee := .builtin .append, args := #[p, q], argTypes := #[22, 22] }) (hp : a.eval p = v) (hq : a.eval q = x) (own : w.ownsRow base 5 1 v n xs) (hx : ByR w x bs) (h : n + bs.length ≤ 100000000) (hbase : base ≤ w.heap.size)
    (hK : ∀ v' w', w'.ownsRow base 5 1 v' (n + bs.length) (xs ++ byC bs) → w.grownBy w' v.ownBlock → (v'.ownBlock = v.ownBlock ∨ v'.ownBlock = some w.heap.size) → K (a.put o.dst v') w') : o.wp Try.prog a w K Q := by
  obtain ⟨v', w', hr, h1, h2, h3⟩ := append_by w o.type own hx h hbase
  unfold Oper.wp execOp
  simp only [ho, resolve, invoke, builtin, Sem.run_bind, Sem.run_pure, Result.andThen_ok, List.map_toArray, List.map_cons, List.map_nil, hp, hq, hr]
  exact hK v' w' h1 h2 h3
theorem wpList_append_by {Q : Exit → Act → World → Prop} (hgd : o.guard = none) (p q : Operand) (ho : o.op = .call { callee := .builtin .append, args := #[p, q], argTypes := #[22, 22] }) (hp : a.eval p = v) (hq : a.eval q = x) (own : w.ownsRow base 5 1 v n xs) (hx : ByR w x bs) (h : n + bs.length ≤ 100000000) (hbase : base ≤ w.heap.size)
    (hK : ∀ v' w', w'.ownsRow base 5 1 v' (n + bs.length) (xs ++ byC bs) → w.grownBy w' v.ownBlock → (v'.ownBlock = v.ownBlock ∨ v'.ownBlock = some w.heap.size) → wpList Try.prog ops Q rest (a.put o.dst v') w') : wpList Try.prog ops Q (o :: rest) a w :=
  wpList_plain hgd fun _ hk => wp_append_by p q ho hp hq own hx h hbase fun v' w' h1 h2 h3 => hk _ _ (hK v' w' h1 h2 h3)
end
/-- What a copy made in new memory leaves. -/
theorem copied {w w1 : World} {v' : Value} {bs : List UInt8} (h1 : w1.ownsRow w.heap.size 5 1 v' (0 + bs.length) ([] ++ byC bs)) (h2 : (w.alloc (.cells #[] 5)).grownBy w1 (some w.heap.size)) :
    w1.ownsRow w.heap.size 5 1 v' bs.length (byC bs) ∧ Below w.heap.size w w1 := by
  rw [Nat.zero_add, List.nil_append] at h1
  exact ⟨h1, ((Below.refl _ w).alloc (Nat.le_refl _) _).grown h2 (by simp) (by intro k hk; injection hk with hk; omega)⟩
end Go.Proofs.Ytbeenmglgdhbjaa.S10
