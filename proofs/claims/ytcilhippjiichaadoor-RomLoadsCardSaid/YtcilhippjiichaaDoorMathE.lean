/-
  Plain mathematics of a line that the reference reads, place by place: it is the line that is read. No condition.
-/
import Derived.Test.YtcilhippjiichaaDoorMathD
namespace Go.Proofs.YtcilhippjiichaaDoor
open S02
namespace RM
open NM (hxs val al dv hx)
def lSeg : List UInt8 := [115, 101, 103, 32]
def lAnd : List UInt8 := [97, 110, 100, 32]
def lStart : List UInt8 := [115, 116, 97, 114, 116, 32]
/-- The kind of a line, by its head. -/
def rHd (l : List UInt8) : Nat := if 4 < l.length ∧ l.take 4 = lSeg then 1 else if 4 < l.length ∧ l.take 4 = lAnd then 2 else if 6 < l.length ∧ l.take 6 = lStart then 3 else 0
def rr3 (A D : List UInt8) : Option Ln := if D.length ≠ 2 ∨ al 16 A = false ∨ al 16 D = false then none else some ⟨3, val 16 A, [], val 16 D⟩
def rr1 (k : Nat) (A D : List UInt8) : Option Ln := if al 16 A = false ∨ D.length < 5 ∨ 35 < D.length ∨ (D.length - 3) % 2 ≠ 0 ∨ D.getD (D.length - 3) 0 ≠ 32 ∨ al 16 (D.drop (D.length - 2)) = false ∨ al 16 (D.take (D.length - 3)) = false then none else some ⟨k, val 16 A, unh (D.take (D.length - 3)), val 16 (D.drop (D.length - 2))⟩
/-- Where the address begins. -/
def rF (l : List UInt8) : Nat := if rHd l = 3 then 6 else 4
def rrd (l : List UInt8) : Option Ln := if rHd l = 0 ∨ l.length < rF l + 11 ∨ l.getD (rF l + 8) 0 ≠ 32 then none else if rHd l = 3 then rr3 ((l.drop 6).take 8) (l.drop 15) else rr1 (rHd l) ((l.drop 4).take 8) (l.drop 13)
theorem rHd_bd (l : List UInt8) : rHd l = 0 ∨ rHd l = 1 ∨ rHd l = 2 ∨ rHd l = 3 := by unfold rHd; split; (· omega); split; (· omega); split <;> omega
theorem getD_app_len {l m : List UInt8} {n k : Nat} (h : l.length = n) (e : n = k) : (l ++ m).getD k 0 = m.getD 0 0 := by
  subst h e
  rw [List.getD_eq_getElem?_getD, List.getElem?_append_right (Nat.le_refl _), Nat.sub_self, List.getD_eq_getElem?_getD]
theorem rrd_tx3 (a s : Nat) (ha : a < 4294967296) (hs : s < 256) : rrd (px wStart a [] s) = some ⟨3, a, [], s⟩ := by
  rw [px_nil]
  have e0 : (wStart ++ [32] ++ (hxs a 8 ++ ([32] ++ hxs s 2))).length = 17 := by simp only [List.length_append, NM.hxs_len, List.length_singleton]; rfl
  have e1 : rHd (wStart ++ [32] ++ (hxs a 8 ++ ([32] ++ hxs s 2))) = 3 := by
    unfold rHd
    have t6 : (wStart ++ [32] ++ (hxs a 8 ++ ([32] ++ hxs s 2))).take 6 = wStart ++ [32] := take_left' rfl
    rw [e0, t6]
    rw [if_neg, if_neg, if_pos ⟨by decide, rfl⟩]
    · rintro ⟨-, h⟩
      have : (wStart ++ [32] ++ (hxs a 8 ++ ([32] ++ hxs s 2))).take 4 = [115, 116, 97, 114] := rfl
      rw [this] at h
      cases h
    · rintro ⟨-, h⟩
      have : (wStart ++ [32] ++ (hxs a 8 ++ ([32] ++ hxs s 2))).take 4 = [115, 116, 97, 114] := rfl
      rw [this] at h
      cases h
  have e2 : (wStart ++ [32] ++ (hxs a 8 ++ ([32] ++ hxs s 2))).drop 6 = hxs a 8 ++ ([32] ++ hxs s 2) := drop_left' rfl
  have e3 : (wStart ++ [32] ++ (hxs a 8 ++ ([32] ++ hxs s 2))).drop 15 = hxs s 2 := by
    rw [show wStart ++ [32] ++ (hxs a 8 ++ ([32] ++ hxs s 2)) = (wStart ++ [32] ++ hxs a 8 ++ [32]) ++ hxs s 2 by simp only [List.append_assoc]]
    exact drop_left' (by simp only [List.length_append, NM.hxs_len, List.length_singleton]; rfl)
  have e4 : (wStart ++ [32] ++ (hxs a 8 ++ ([32] ++ hxs s 2))).getD 14 0 = 32 := by
    rw [show wStart ++ [32] ++ (hxs a 8 ++ ([32] ++ hxs s 2)) = (wStart ++ [32] ++ hxs a 8) ++ ([32] ++ hxs s 2) by simp only [List.append_assoc]]
    exact getD_app_len (n := 14) (by simp only [List.length_append, NM.hxs_len, List.length_singleton]; rfl) rfl
  have eF : rF (wStart ++ [32] ++ (hxs a 8 ++ ([32] ++ hxs s 2))) = 6 := by unfold rF; rw [e1]; rfl
  unfold rrd
  rw [eF, e0, e1, e2, e3, e4, take_left' (NM.hxs_len a 8), if_neg (by decide), if_pos rfl]
  unfold rr3
  rw [NM.hxs_len, al_hxs, al_hxs, val_hxs a 8 ha, val_hxs s 2 hs, if_neg (by decide)]
theorem rrd_tx1 (k a s : Nat) (bs : List UInt8) (hk : k = 1 ∨ k = 2) (ha : a < 4294967296) (hs : s < 256) (hb : bs ≠ []) (h16 : bs.length ≤ 16) : rrd (px (wdK k) a bs s) = some ⟨k, a, bs, s⟩ := by
  rw [px_some _ _ _ hb]
  have hw : (wdK k).length = 3 := by rcases hk with rfl | rfl <;> rfl
  have hl : 0 < bs.length := List.length_pos_iff.mpr hb
  obtain ⟨D, hD⟩ : ∃ D, dg bs ++ ([32] ++ hxs s 2) = D := ⟨_, rfl⟩
  have hDl : D.length = 2 * bs.length + 3 := by rw [← hD]; simp only [List.length_append, NM.hxs_len, List.length_singleton, dg_len]
  rw [show dg bs ++ ([32] ++ hxs s 2) = D from hD]
  have e0 : (wdK k ++ [32] ++ (hxs a 8 ++ ([32] ++ D))).length = D.length + 13 := by simp only [List.length_append, NM.hxs_len, List.length_singleton, hw]; omega
  have e1 : rHd (wdK k ++ [32] ++ (hxs a 8 ++ ([32] ++ D))) = k := by
    unfold rHd
    rw [e0, take_left' (show (wdK k ++ [32]).length = 4 by rw [List.length_append, hw]; rfl)]
    rcases hk with rfl | rfl
    · rw [if_pos ⟨by omega, rfl⟩]
    · rw [if_neg (by rintro ⟨-, h⟩; revert h; decide), if_pos ⟨by omega, rfl⟩]
  have e2 : (wdK k ++ [32] ++ (hxs a 8 ++ ([32] ++ D))).drop 4 = hxs a 8 ++ ([32] ++ D) := drop_left' (by rw [List.length_append, hw]; rfl)
  have e3 : (wdK k ++ [32] ++ (hxs a 8 ++ ([32] ++ D))).drop 13 = D := by
    rw [show wdK k ++ [32] ++ (hxs a 8 ++ ([32] ++ D)) = (wdK k ++ [32] ++ hxs a 8 ++ [32]) ++ D by simp only [List.append_assoc]]
    exact drop_left' (by simp only [List.length_append, NM.hxs_len, List.length_singleton, hw])
  have e4 : (wdK k ++ [32] ++ (hxs a 8 ++ ([32] ++ D))).getD 12 0 = 32 := by
    rw [show wdK k ++ [32] ++ (hxs a 8 ++ ([32] ++ D)) = (wdK k ++ [32] ++ hxs a 8) ++ ([32] ++ D) by simp only [List.append_assoc]]
    exact getD_app_len (n := 12) (by simp only [List.length_append, NM.hxs_len, List.length_singleton, hw]) rfl
  have eF : rF (wdK k ++ [32] ++ (hxs a 8 ++ ([32] ++ D))) = 4 := by unfold rF; rw [e1, if_neg (by omega)]
  unfold rrd
  rw [eF, e0, e1, e2, e3, e4, take_left' (NM.hxs_len a 8), if_neg (by rintro (h | h | h); omega; omega; exact h rfl), if_neg (by omega)]
  unfold rr1
  have d1 : D.take (D.length - 3) = dg bs := by rw [hDl, show 2 * bs.length + 3 - 3 = 2 * bs.length by omega, ← hD]; exact take_left' (dg_len bs)
  have d2 : D.drop (D.length - 2) = hxs s 2 := by
    rw [hDl, ← hD, show dg bs ++ ([32] ++ hxs s 2) = (dg bs ++ [32]) ++ hxs s 2 by simp only [List.append_assoc]]
    exact drop_left' (by simp only [List.length_append, dg_len, List.length_singleton]; omega)
  have d3 : D.getD (D.length - 3) 0 = 32 := by
    rw [hDl, ← hD]
    exact getD_app_len (dg_len bs) (by omega)
  rw [d1, d2, d3, al_hxs, al_hxs, al_dg, val_hxs a 8 ha, val_hxs s 2 hs, unh_dg, if_neg]
  rintro (h | h | h | h | h | h | h)
  · cases h
  · omega
  · omega
  · rw [hDl] at h; omega
  · exact h rfl
  · cases h
  · cases h
theorem rrd_tx (x : Ln) (h : x.ok) : rrd x.tx = some x := by
  obtain ⟨k, a, bs, s⟩ := x
  obtain ⟨h1, h2, h3, h4, h5⟩ := h
  simp only [] at h1 h2 h3 h4 h5
  unfold Ln.tx
  simp only []
  rcases h1 with rfl | rfl | rfl
  · exact rrd_tx1 1 a s bs (.inl rfl) h2 h3 (fun e => by have := h4.2 e; omega) h5
  · exact rrd_tx1 2 a s bs (.inr rfl) h2 h3 (fun e => by have := h4.2 e; omega) h5
  · obtain rfl := h4.1 rfl
    exact rrd_tx3 a s h2 h3
/-- A list put together again of what lies up to a place, there, and behind. -/
theorem cut_at {l : List UInt8} {n : Nat} {c : UInt8} (h : n < l.length) (hc : l.getD n 0 = c) : l = l.take n ++ ([c] ++ l.drop (n + 1)) := by
  rw [List.getD_eq_getElem?_getD, List.getElem?_eq_getElem h] at hc
  simp only [Option.getD_some] at hc
  rw [← hc, List.singleton_append, ← List.drop_eq_getElem_cons h, List.take_append_drop]
theorem rrd_open {l : List UInt8} {x : Ln} (h : rrd l = some x) : x.ok ∧ x.tx = l := by
  unfold rrd at h
  split at h
  · cases h
  · rename_i h0
    have n0 : rHd l ≠ 0 := fun e => h0 (.inl e)
    have nl : rF l + 11 ≤ l.length := by
      rcases Nat.lt_or_ge l.length (rF l + 11) with h' | h'
      · exact absurd (.inr (.inl h')) h0
      · exact h'
    have nc : l.getD (rF l + 8) 0 = 32 := by
      by_cases e : l.getD (rF l + 8) 0 = 32
      · exact e
      · exact absurd (.inr (.inr e)) h0
    split at h
    · rename_i h3
      have hF : rF l = 6 := by unfold rF; rw [if_pos h3]
      rw [hF] at nl nc
      have hst : l.take 6 = wStart ++ [32] := by
        unfold rHd at h3
        split at h3
        · cases h3
        · split at h3
          · cases h3
          · split at h3
            · rename_i h'; exact h'.2
            · cases h3
      unfold rr3 at h
      split at h
      · cases h
      · rename_i h4
        injection h with h
        subst h
        have a1 : al 16 ((l.drop 6).take 8) = true := by cases e : al 16 ((l.drop 6).take 8) with | true => rfl | false => exact absurd (.inr (.inl e)) h4
        have a2 : al 16 (l.drop 15) = true := by cases e : al 16 (l.drop 15) with | true => rfl | false => exact absurd (.inr (.inr e)) h4
        have a3 : (l.drop 15).length = 2 := by by_cases e : (l.drop 15).length = 2; (· exact e); (· exact absurd (.inl e) h4)
        have a4 : ((l.drop 6).take 8).length = 8 := by rw [List.length_take, List.length_drop]; omega
        refine ⟨⟨.inr (.inr rfl), val_lt' a1 a4 (by decide), val_lt' a2 a3 (by decide), ⟨fun _ => rfl, fun _ => rfl⟩, by simp⟩, ?_⟩
        unfold Ln.tx
        simp only []
        rw [show wdK 3 = wStart from rfl, px_nil, hxs_of a1 a4, hxs_of a2 a3, ← hst]
        have e1 := cut_at (l := l.drop 6) (n := 8) (c := 32) (by rw [List.length_drop]; omega) (by rw [← nc]; simp [List.getD_eq_getElem?_getD])
        rw [List.drop_drop] at e1
        rw [← e1, List.take_append_drop]
    · rename_i h3
      have hk : rHd l = 1 ∨ rHd l = 2 := by rcases rHd_bd l with h' | h' | h' | h' <;> simp_all
      have hF : rF l = 4 := by unfold rF; rw [if_neg h3]
      rw [hF] at nl nc
      have hst : l.take 4 = wdK (rHd l) ++ [32] := by
        rcases hk with hk | hk
        · rw [hk]
          unfold rHd at hk
          split at hk
          · rename_i h'; exact h'.2
          · split at hk
            · cases hk
            · split at hk <;> cases hk
        · rw [hk]
          unfold rHd at hk
          split at hk
          · cases hk
          · split at hk
            · rename_i h'; exact h'.2
            · split at hk <;> cases hk
      obtain ⟨D, hD⟩ : ∃ D, l.drop 13 = D := ⟨_, rfl⟩
      rw [hD] at h
      unfold rr1 at h
      split at h
      · cases h
      · rename_i h4
        injection h with h
        subst h
        have a1 : al 16 ((l.drop 4).take 8) = true := by cases e : al 16 ((l.drop 4).take 8) with | true => rfl | false => exact absurd (.inl e) h4
        have a4 : ((l.drop 4).take 8).length = 8 := by rw [List.length_take, List.length_drop]; omega
        have b1 : 5 ≤ D.length := by rcases Nat.lt_or_ge D.length 5 with e | e; (· exact absurd (.inr (.inl e)) h4); (· exact e)
        have b2 : D.length ≤ 35 := by rcases Nat.lt_or_ge 35 D.length with e | e; (· exact absurd (.inr (.inr (.inl e))) h4); (· exact e)
        have b3 : (D.length - 3) % 2 = 0 := by by_cases e : (D.length - 3) % 2 = 0; (· exact e); (· exact absurd (.inr (.inr (.inr (.inl e)))) h4)
        have b4 : D.getD (D.length - 3) 0 = 32 := by by_cases e : D.getD (D.length - 3) 0 = 32; (· exact e); (· exact absurd (.inr (.inr (.inr (.inr (.inl e))))) h4)
        have b5 : al 16 (D.drop (D.length - 2)) = true := by cases e : al 16 (D.drop (D.length - 2)) with | true => rfl | false => exact absurd (.inr (.inr (.inr (.inr (.inr (.inl e)))))) h4
        have b6 : al 16 (D.take (D.length - 3)) = true := by cases e : al 16 (D.take (D.length - 3)) with | true => rfl | false => exact absurd (.inr (.inr (.inr (.inr (.inr (.inr e)))))) h4
        have b7 : (D.drop (D.length - 2)).length = 2 := by rw [List.length_drop]; omega
        have b8 : (D.take (D.length - 3)).length = D.length - 3 := by rw [List.length_take]; omega
        obtain ⟨bs, c1, c2⟩ := dg_of ((D.length - 3) / 2) (D.take (D.length - 3)) (by rw [b8]; omega) b6
        have hbs : unh (D.take (D.length - 3)) = bs := by rw [← c1, unh_dg]
        have hne : bs ≠ [] := fun e => by rw [e] at c2; simp at c2; omega
        rw [hbs]
        refine ⟨⟨by simp only []; omega, val_lt' a1 a4 (by decide), val_lt' b5 b7 (by decide), ⟨fun e => by simp only [] at e; omega, fun e => absurd e hne⟩, by simp only []; omega⟩, ?_⟩
        unfold Ln.tx
        simp only []
        rw [px_some _ _ _ hne, hxs_of a1 a4, hxs_of b5 b7, c1, ← hst]
        have e2 := cut_at (l := D) (n := D.length - 3) (c := 32) (by omega) b4
        rw [show D.length - 3 + 1 = D.length - 2 by omega] at e2
        rw [← e2, ← hD]
        have e1 := cut_at (l := l.drop 4) (n := 8) (c := 32) (by rw [List.length_drop]; omega) (by rw [← nc]; simp [List.getD_eq_getElem?_getD])
        rw [List.drop_drop] at e1
        rw [← e1, List.take_append_drop]
theorem rrd_eq (l : List UInt8) : rrd l = rd l := by
  cases h : rrd l with
  | some x => exact (rd_some.2 (rrd_open h)).symm
  | none =>
    refine (rd_none.2 fun x hx e => ?_).symm
    rw [← e, rrd_tx x hx] at h
    cases h
end RM
end Go.Proofs.YtcilhippjiichaaDoor
