/-
  Plain mathematics: the lines of a text put together again; the text of an image as lines; what is read of it is the image. No condition.
  Plain mathematics: a text that is read is the text of its image; a text in which one byte is another one is not read. No condition.
-/
import Derived.Test.YtcilhippjiichaaDoorMathE

/-! MathF -/
namespace Go.Proofs.YtcilhippjiichaaDoor
open S02
namespace RM
open NM (hxs val al dv hx)
/-- Lines, each with its line feed. -/
def fl10 (ls : List (List UInt8)) : List UInt8 := ls.flatMap fun x => x ++ [10]
theorem fl10_nil : fl10 [] = [] := rfl
theorem fl10_cons (x : List UInt8) (r : List (List UInt8)) : fl10 (x :: r) = x ++ 10 :: fl10 r := by simp [fl10]
theorem fl10_app (l m : List (List UInt8)) : fl10 (l ++ m) = fl10 l ++ fl10 m := by simp [fl10]
theorem fl10_one (x : List UInt8) : fl10 [x] = x ++ [10] := by simp [fl10]
/-- What ln leaves, put together again. -/
theorem ln_flat (l : List UInt8) : ∀ k, k ≤ l.length → fl10 (NM.ln l k).1 = l.take (NM.ln l k).2 ∧ (∀ x ∈ (NM.ln l k).1, ∀ c ∈ x, c ≠ 10) ∧ ∀ j, (NM.ln l k).2 ≤ j → j < k → l.getD j 0 ≠ 10
  | 0, _ => ⟨rfl, fun x hx => by simp [NM.ln] at hx, fun j _ h => by omega⟩
  | k + 1, hk => by
    obtain ⟨h1, h2, h3⟩ := ln_flat l k (by omega)
    have hb := (NM.ln_bd l k).1
    by_cases h : l.getD k 0 = 10
    · rw [NM.ln_cut l k h]
      refine ⟨?_, fun x hx c hc => ?_, fun j h4 h5 => by simp only [] at h4; omega⟩
      · simp only []
        rw [fl10_app, h1, fl10_one, NM.sl]
        have e1 : l.take (k + 1) = l.take k ++ [l.getD k 0] := by
          rw [List.take_succ_eq_append_getElem (by omega), List.getD_eq_getElem?_getD, List.getElem?_eq_getElem (by omega)]
          rfl
        rw [e1, h, ← List.append_assoc]
        congr 1
        rw [← List.drop_take]
        have := List.take_append_drop (NM.ln l k).2 (l.take k)
        rwa [List.take_take, Nat.min_eq_left hb] at this
      · rcases List.mem_append.1 hx with hx | hx
        · exact h2 x hx c hc
        · rw [List.mem_singleton] at hx
          subst hx
          unfold NM.sl at hc
          obtain ⟨i, hi, rfl⟩ := List.getElem_of_mem hc
          rw [List.length_take, List.length_drop] at hi
          rw [List.getElem_take, List.getElem_drop]
          have := h3 ((NM.ln l k).2 + i) (by omega) (by omega)
          rwa [List.getD_eq_getElem?_getD, List.getElem?_eq_getElem (by omega)] at this
    · rw [NM.ln_no l k h]
      refine ⟨h1, h2, fun j h4 h5 => ?_⟩
      by_cases e : j = k
      · subst e; exact h
      · exact h3 j h4 (by omega)
theorem lL_flat {l : List UInt8} (h : NM.lE l = 0) : fl10 (NM.lL l) = l ∧ ∀ x ∈ NM.lL l, ∀ c ∈ x, c ≠ 10 := by
  obtain ⟨h1, h2, -⟩ := ln_flat l l.length (Nat.le_refl _)
  have hb := (NM.ln_bd l l.length).1
  have h3 : (NM.ln l l.length).2 = l.length := by
    unfold NM.lE at h
    split at h
    · cases h
    · split at h
      · cases h
      · rename_i h4
        rcases Nat.lt_or_ge (NM.ln l l.length).2 l.length with h5 | h5
        · exact absurd (.inr h5) h4
        · omega
  unfold NM.lL
  rw [if_pos h]
  refine ⟨?_, h2⟩
  rw [h1, h3, List.take_length]
/-- The first lines of a segment, taken apart. -/
def lnL1 (a : Nat) (bs : List UInt8) : Nat → List Ln
  | 0 => []
  | j + 1 => lnL1 a bs j ++ [⟨if j = 0 then 1 else 2, a + 16 * j, (bs.drop (16 * j)).take 16, sm (a + 16 * j) ((bs.drop (16 * j)).take 16)⟩]
def lnLs : List (Nat × List UInt8) → List Ln
  | [] => []
  | p :: r => lnL1 p.1 p.2 ((p.2.length + 15) / 16) ++ lnLs r
def lnT (st : Nat) (l : List (Nat × List UInt8)) : List Ln := lnLs l ++ [⟨3, st, [], sm st []⟩]
theorem tx1_lines (a : Nat) (bs : List UInt8) : ∀ j, tx1 a bs j = fl10 ((lnL1 a bs j).map Ln.tx)
  | 0 => rfl
  | j + 1 => by
    rw [tx1, lnL1, List.map_append, fl10_app, ← tx1_lines a bs j]
    congr 1
    rw [List.map_singleton, fl10_one]
    unfold line Ln.tx
    by_cases h : j = 0
    · simp only [if_pos h]; rfl
    · simp only [if_neg h]; rfl
theorem txs_lines : ∀ l, txs l = fl10 ((lnLs l).map Ln.tx)
  | [] => rfl
  | p :: r => by rw [txs, lnLs, List.map_append, fl10_app, ← txs_lines r, tx1_lines]
theorem tx_lines (st : Nat) (l : List (Nat × List UInt8)) : tx st l = fl10 ((lnT st l).map Ln.tx) := by
  unfold tx lnT
  rw [List.map_append, fl10_app, ← txs_lines, List.map_singleton, fl10_one]
  rfl
/-- A line whose sum is right. -/
def Good (x : Ln) : Prop := x.ok ∧ x.s = sm x.a x.bs
theorem lnL1_good {a : Nat} {bs : List UInt8} (ha : a + bs.length ≤ 16384) : ∀ j, 16 * (j - 1) < bs.length ∨ j = 0 → ∀ x ∈ lnL1 a bs j, Good x
  | 0, _, x, hx => by simp [lnL1] at hx
  | j + 1, h, x, hx => by
    rw [lnL1] at hx
    rcases List.mem_append.1 hx with hx | hx
    · exact lnL1_good ha j (by omega) x hx
    · rw [List.mem_singleton] at hx
      subst hx
      have h1 : 16 * j < bs.length := by rcases h with h | h <;> omega
      have h2 : ((bs.drop (16 * j)).take 16).length = min 16 (bs.length - 16 * j) := by rw [List.length_take, List.length_drop]
      have h3 : (bs.drop (16 * j)).take 16 ≠ [] := fun e => by rw [e] at h2; simp at h2; omega
      refine ⟨⟨?_, by simp only []; omega, sm_lt _ _, ⟨fun e => ?_, fun e => absurd e h3⟩, by simp only []; omega⟩, rfl⟩
      · simp only []; split <;> omega
      · simp only [] at e; split at e <;> omega
theorem lnLs_good : ∀ {l : List (Nat × List UInt8)}, (∀ p ∈ l, p.2 ≠ [] ∧ p.1 + p.2.length ≤ 16384) → ∀ x ∈ lnLs l, Good x
  | [], _, x, hx => by simp [lnLs] at hx
  | p :: r, h, x, hx => by
    rw [lnLs] at hx
    rcases List.mem_append.1 hx with hx | hx
    · obtain ⟨h1, h2⟩ := h p (by simp)
      have h3 : 0 < p.2.length := List.length_pos_iff.mpr h1
      exact lnL1_good h2 _ (by omega) x hx
    · exact lnLs_good (fun q hq => h q (List.mem_cons_of_mem _ hq)) x hx
theorem lnT_good {st : Nat} {l : List (Nat × List UInt8)} (h : rt l = 0) (hst : st < 4294967296) : ∀ x ∈ lnT st l, Good x := by
  intro x hx
  unfold lnT at hx
  rcases List.mem_append.1 hx with hx | hx
  · exact lnLs_good (rt_open h).2.2 x hx
  · rw [List.mem_singleton] at hx
    subst hx
    exact ⟨⟨.inr (.inr rfl), hst, sm_lt _ _, ⟨fun _ => rfl, fun _ => rfl⟩, by simp⟩, rfl⟩
theorem al_okb {l : List UInt8} (h : al 16 l = true) : ∀ c ∈ l, NM.okb c = true ∧ c ≠ 10 := by
  intro c hc
  have h1 := al_mem h c hc
  unfold dv at h1
  split at h1
  · rename_i h2; exact NM.okb_in c (by omega) (by omega) (by omega)
  · split at h1
    · rename_i h2; exact NM.okb_in c (by omega) (by omega) (by omega)
    · omega
theorem wdK_okb (k : Nat) : ∀ c ∈ wdK k, NM.okb c = true ∧ c ≠ 10 := by
  unfold wdK
  split
  · decide
  · split <;> decide
/-- The bytes of a line. -/
theorem tx_okb (x : Ln) : ∀ c ∈ x.tx, NM.okb c = true ∧ c ≠ 10 := by
  intro c hc
  unfold Ln.tx px at hc
  have h32 : NM.okb 32 = true ∧ (32 : UInt8) ≠ 10 := by decide
  simp only [List.mem_append, List.mem_singleton] at hc
  rcases hc with (((hc | hc) | hc) | hc) | hc | hc
  · exact wdK_okb _ c hc
  · rw [hc]; exact h32
  · exact al_okb (al_hxs _ _) c hc
  · rw [hc]; exact h32
  · split at hc
    · simp at hc
    · rcases List.mem_append.1 hc with hc | hc
      · exact al_okb (al_dg _) c hc
      · rw [List.mem_singleton] at hc; rw [hc]; exact h32
  · exact al_okb (al_hxs _ _) c hc
theorem Sl_lines : ∀ (xs : List Ln) {l : List UInt8} {acc : List (List UInt8)}, NM.Sl l acc → NM.Sl (l ++ fl10 (xs.map Ln.tx)) (acc ++ xs.map Ln.tx)
  | [], l, acc, h => by simpa [fl10] using h
  | x :: r, l, acc, h => by
    have h1 := h.line x.tx (tx_okb x)
    have h2 := Sl_lines r h1
    rw [List.map_cons, fl10_cons]
    simpa [List.append_assoc] using h2
theorem Sl_nil : NM.Sl [] [] := ⟨rfl, rfl, rfl⟩
/-- All bytes of segments. -/
def bt : List (Nat × List UInt8) → Nat
  | [] => 0
  | p :: r => p.2.length + bt r
theorem bt_le : ∀ {l : List (Nat × List UInt8)} {f : Nat}, f ≤ 16384 → rtA f l = 0 → f + bt l ≤ 16384
  | [], f, hf, _ => by simpa [bt] using hf
  | p :: r, f, hf, h => by
    rw [rtA] at h
    split at h
    · cases h
    · split at h
      · cases h
      · split at h
        · cases h
        · have := bt_le (by omega) h
          rw [bt]
          omega
theorem lnL1_len (a : Nat) (bs : List UInt8) : ∀ j, (lnL1 a bs j).length = j
  | 0 => rfl
  | j + 1 => by rw [lnL1, List.length_append, lnL1_len a bs j]; rfl
theorem lnLs_len : ∀ l, 16 * (lnLs l).length ≤ bt l + 15 * l.length
  | [] => by simp [lnLs]
  | p :: r => by
    have := lnLs_len r
    rw [lnLs, List.length_append, lnL1_len, bt, List.length_cons]
    omega
theorem tx_ln_len (x : Ln) (h : x.ok) : x.tx.length ≤ 50 := by
  have h1 := px_len (wdK x.k) x.a x.bs x.s
  have h2 : (wdK x.k).length ≤ 5 := by unfold wdK; split; (· decide); split <;> decide
  have h3 := h.2.2.2.2
  have h4 := h.2.2.2.1
  unfold Ln.tx
  by_cases h5 : x.k = 3
  · have := h4.1 h5
    rw [this] at h1
    rw [this]
    simp at h1
    omega
  · have h6 : (wdK x.k).length = 3 := by rcases h.1 with e | e | e; (· rw [e]; rfl); (· rw [e]; rfl); (· exact absurd e h5)
    omega
theorem fl10_len : ∀ (xs : List Ln), (∀ x ∈ xs, Good x) → (fl10 (xs.map Ln.tx)).length ≤ 51 * xs.length
  | [], _ => by simp [fl10]
  | x :: r, h => by
    have h1 := fl10_len r fun y hy => h y (List.mem_cons_of_mem _ hy)
    have h2 := tx_ln_len x (h x (by simp)).1
    rw [List.map_cons, fl10_cons, List.length_append, List.length_cons, List.length_cons]
    omega
/-- The lines of an image's text. -/
theorem tx_lL {st : Nat} {l : List (Nat × List UInt8)} (h : rt l = 0) (hst : st < 4294967296) : NM.lE (tx st l) = 0 ∧ NM.lL (tx st l) = (lnT st l).map Ln.tx := by
  have h1 := Sl_lines (lnT st l) Sl_nil
  rw [List.nil_append, List.nil_append, ← tx_lines] at h1
  have h2 := fl10_len (lnT st l) (lnT_good h hst)
  rw [← tx_lines] at h2
  obtain ⟨o1, o2, -⟩ := rt_open h
  have h3 := bt_le (by decide) o2
  have h4 := lnLs_len l
  have h5 : (lnT st l).length = (lnLs l).length + 1 := by unfold lnT; rw [List.length_append]; rfl
  exact h1.done (by omega) (by rw [List.length_map]; omega)
/-- A line that stands. -/
theorem PL_step {x : Ln} (hx : Good x) {r : List (List UInt8)} {k kl al nl st : Nat} {l : List (Nat × List UInt8)} (hf : fl kl al nl x.k x.a = true) (hr : rt (ad x l) = 0) : PL (x.tx :: r) k kl al nl l st = PL r (k + 1) x.k x.a x.bs.length (ad x l) (if x.k = 3 then x.a else st) := by
  have h1 : rd x.tx = some x := rd_some.2 ⟨hx.1, rfl⟩
  have h2 : tkE kl al nl x.tx = 0 := by
    unfold tkE
    rw [h1]
    simp only []
    rw [if_pos hf, if_pos hx.2]
  exact PL_good h1 (by rw [lnE_some h2 h1]; exact hr)
theorem rtA_pre {f : Nat} : ∀ {A B : List (Nat × List UInt8)}, rtA f (A ++ B) = 0 → rtA f A = 0 := by
  intro A
  induction A generalizing f with
  | nil => intro B _; rfl
  | cons p r ih =>
    intro B h
    rw [List.cons_append, rtA] at h
    rw [rtA]
    split at h
    · cases h
    · split at h
      · cases h
      · split at h
        · cases h
        · rename_i h1 h2 h3
          rw [if_neg h1, if_neg h2, if_neg h3]
          exact ih h
theorem rt_pre {A B : List (Nat × List UInt8)} (h : rt (A ++ B) = 0) : rt A = 0 := by
  obtain ⟨h1, h2, -⟩ := rt_open h
  rw [List.length_append] at h1
  unfold rt
  rw [if_neg (by omega)]
  exact rtA_pre h2
/-- A segment cut short may be. -/
theorem rt_cut {L : List (Nat × List UInt8)} {a : Nat} {bs : List UInt8} (h : rt (L ++ [(a, bs)]) = 0) {n : Nat} (hn : 0 < n) : rt (L ++ [(a, bs.take n)]) = 0 := by
  obtain ⟨h1, h2, h3⟩ := rt_init h
  obtain ⟨h4, h5, h6⟩ := r1_open.1 h3
  simp only [] at h4 h5 h6
  have h7 : 0 < bs.length := List.length_pos_iff.mpr h4
  rw [rt_snoc h2, if_neg (by omega)]
  refine r1_open.2 ⟨fun e => ?_, ?_, h6⟩
  · have := congrArg List.length e
    simp only [List.length_take, List.length_nil] at this
    omega
  · simp only [List.length_take]; omega
theorem take_more (bs : List UInt8) (n : Nat) : bs.take n ++ (bs.drop n).take 16 = bs.take (n + 16) := by
  rw [List.take_add]
/-- A segment's lines, read. -/
theorem PL_seg {L : List (Nat × List UInt8)} {a : Nat} {bs : List UInt8} (h : rt (L ++ [(a, bs)]) = 0) {k kl al nl st : Nat} (hkl : kl ≠ 3) (r : List (List UInt8)) : ∀ j, 16 * j < bs.length → PL ((lnL1 a bs (j + 1)).map Ln.tx ++ r) k kl al nl L st = PL r (k + (j + 1)) (if j = 0 then 1 else 2) (a + 16 * j) ((bs.drop (16 * j)).take 16).length (L ++ [(a, bs.take (16 * (j + 1)))]) st := by
  intro j
  have hb := ((rt_open h).2.2 (a, bs) (by simp)).2
  simp only [] at hb
  induction j generalizing r with
  | zero =>
    intro h0
    have hg := lnL1_good hb 1 (.inl (by omega)) ⟨1, a + 16 * 0, (bs.drop (16 * 0)).take 16, sm (a + 16 * 0) ((bs.drop (16 * 0)).take 16)⟩ (by simp [lnL1])
    have e : (lnL1 a bs (0 + 1)).map Ln.tx ++ r = (⟨1, a + 16 * 0, (bs.drop (16 * 0)).take 16, sm (a + 16 * 0) ((bs.drop (16 * 0)).take 16)⟩ : Ln).tx :: r := by simp [lnL1]
    have had : ad ⟨1, a + 16 * 0, (bs.drop (16 * 0)).take 16, sm (a + 16 * 0) ((bs.drop (16 * 0)).take 16)⟩ L = L ++ [(a, bs.take 16)] := by rw [ad_one rfl]; simp
    rw [e, PL_step hg (by unfold fl; rw [if_neg hkl, if_neg (by simp)]) (by rw [had]; exact rt_cut h (by decide)), had, if_neg (by simp), if_pos rfl]
  | succ j ih =>
    intro h0
    have hg := lnL1_good hb (j + 1 + 1) (.inl (by omega)) ⟨2, a + 16 * (j + 1), (bs.drop (16 * (j + 1))).take 16, sm (a + 16 * (j + 1)) ((bs.drop (16 * (j + 1))).take 16)⟩ (by rw [lnL1]; simp)
    have e : (lnL1 a bs (j + 1 + 1)).map Ln.tx ++ r = (lnL1 a bs (j + 1)).map Ln.tx ++ ((⟨2, a + 16 * (j + 1), (bs.drop (16 * (j + 1))).take 16, sm (a + 16 * (j + 1)) ((bs.drop (16 * (j + 1))).take 16)⟩ : Ln).tx :: r) := by rw [lnL1]; simp
    have hfull : ((bs.drop (16 * j)).take 16).length = 16 := by rw [List.length_take, List.length_drop]; omega
    have had : ad ⟨2, a + 16 * (j + 1), (bs.drop (16 * (j + 1))).take 16, sm (a + 16 * (j + 1)) ((bs.drop (16 * (j + 1))).take 16)⟩ (L ++ [(a, bs.take (16 * (j + 1)))]) = L ++ [(a, bs.take (16 * (j + 1 + 1)))] := by
      rw [ad_two rfl, take_more, show 16 * (j + 1) + 16 = 16 * (j + 1 + 1) by omega]
    rw [e, ih _ (by omega), hfull, PL_step hg (by
      unfold fl
      rw [if_neg (by split <;> omega), if_pos rfl, decide_eq_true rfl, decide_eq_true (by simp only []; omega)]; rfl) (by rw [had]; exact rt_cut h (by omega)), had, if_neg (by simp), if_neg (by omega)]
    rfl
theorem PL_segs : ∀ (l : List (Nat × List UInt8)) {L : List (Nat × List UInt8)} (_ : rt (L ++ l) = 0) {k kl al nl st : Nat} (_ : kl ≠ 3) (r : List (List UInt8)), ∃ k' kl' al' nl', kl' ≠ 3 ∧ PL ((lnLs l).map Ln.tx ++ r) k kl al nl L st = PL r k' kl' al' nl' (L ++ l) st
  | [], L, h, k, kl, al, nl, st, hkl, r => ⟨k, kl, al, nl, hkl, by simp [lnLs]⟩
  | p :: q, L, h, k, kl, al, nl, st, hkl, r => by
    obtain ⟨a, bs⟩ := p
    have e0 : L ++ (a, bs) :: q = (L ++ [(a, bs)]) ++ q := by simp
    rw [e0] at h
    have h1 := rt_pre h
    have hb := ((rt_open h1).2.2 (a, bs) (by simp)).1
    simp only [] at hb
    have hl : 0 < bs.length := List.length_pos_iff.mpr hb
    obtain ⟨j, hj⟩ : ∃ j, (bs.length + 15) / 16 = j + 1 := ⟨(bs.length + 15) / 16 - 1, by omega⟩
    have e1 : (lnLs ((a, bs) :: q)).map Ln.tx ++ r = (lnL1 a bs (j + 1)).map Ln.tx ++ ((lnLs q).map Ln.tx ++ r) := by
      rw [lnLs, List.map_append, List.append_assoc]
      simp only [hj]
    rw [e1, PL_seg h1 hkl _ j (by omega), show bs.take (16 * (j + 1)) = bs from List.take_of_length_le (by omega)]
    obtain ⟨k', kl', al', nl', h2, h3⟩ := PL_segs q h (k := k + (j + 1)) (kl := if j = 0 then 1 else 2) (al := a + 16 * j) (nl := ((bs.drop (16 * j)).take 16).length) (st := st) (by split <;> omega) r
    exact ⟨k', kl', al', nl', h2, by rw [h3, e0]⟩
/-- What is read of an image's text is the image. -/
theorem PA_tx {st : Nat} {l : List (Nat × List UInt8)} (h : rt l = 0) (hst : st < 4294967296) : PA (tx st l) = (l, st, 0, 0) := by
  obtain ⟨h1, h2⟩ := tx_lL h hst
  unfold PA
  rw [if_pos h1, h2]
  unfold lnT
  rw [List.map_append]
  obtain ⟨k', kl', al', nl', h3, h4⟩ := PL_segs l (L := []) (by simpa using h) (k := 0) (kl := 0) (al := 0) (nl := 0) (st := 0) (by decide) ([(⟨3, st, [], sm st []⟩ : Ln)].map Ln.tx)
  rw [h4]
  have hg : Good ⟨3, st, [], sm st []⟩ := lnT_good h hst _ (by unfold lnT; simp)
  rw [List.map_singleton, PL_step hg (by unfold fl; rw [if_neg h3, if_neg (by simp)]) (by rw [ad_three rfl]; simpa using h), ad_three rfl]
  rfl
end RM
end Go.Proofs.YtcilhippjiichaaDoor
/-! MathG -/
namespace Go.Proofs.YtcilhippjiichaaDoor
open S02
namespace RM
open NM (hxs val al dv hx)
/-- A line that was read to the end. -/
theorem PL_open {t : List UInt8} {r : List (List UInt8)} {k kl al nl st : Nat} {l l' : List (Nat × List UInt8)} {st' n : Nat} (h : PL (t :: r) k kl al nl l st = (l', st', n, 0)) : ∃ x, rd t = some x ∧ lnE kl al nl l t = 0 ∧ PL r (k + 1) x.k x.a x.bs.length (ad x l) (if x.k = 3 then x.a else st) = (l', st', n, 0) := by
  by_cases he : lnE kl al nl l t = 0
  · cases hr : rd t with
    | none => rw [lnE_none hr] at he; cases he
    | some x => exact ⟨x, rfl, he, by rw [← PL_good hr he]; exact h⟩
  · rw [PL_bad he] at h
    injection h with _ h
    injection h with _ h
    injection h with _ h
    exact absurd h he
theorem lnE_zero {kl al nl : Nat} {l : List (Nat × List UInt8)} {t : List UInt8} {x : Ln} (hr : rd t = some x) (h : lnE kl al nl l t = 0) : fl kl al nl x.k x.a = true ∧ Good x ∧ rt (ad x l) = 0 := by
  have ht : tkE kl al nl t = 0 := by
    by_cases hz : tkE kl al nl t = 0
    · exact hz
    · rw [lnE_bad hz] at h; exact h
  obtain ⟨h1, h2⟩ := tkE_zero hr ht
  exact ⟨h1, ⟨(rd_some.1 hr).1, h2⟩, by rw [← lnE_some ht hr]; exact h⟩
/-- All lines of a text that is read are right. -/
theorem PL_goods : ∀ {ls : List (List UInt8)} {k kl al nl st : Nat} {l l' : List (Nat × List UInt8)} {st' n : Nat}, PL ls k kl al nl l st = (l', st', n, 0) → ∀ t ∈ ls, ∃ x : Ln, Good x ∧ x.tx = t
  | [], _, _, _, _, _, _, _, _, _, _, t, ht => by simp at ht
  | u :: r, k, kl, al, nl, st, l, l', st', n, h, t, ht => by
    obtain ⟨x, h1, h2, h3⟩ := PL_open h
    rcases List.mem_cons.1 ht with rfl | ht
    · exact ⟨x, (lnE_zero h1 h2).2.1, (rd_some.1 h1).2⟩
    · exact PL_goods h3 t ht
/-- What the lines up to one are: the text of the segments so far. -/
def Pre (kl al nl : Nat) (l : List (Nat × List UInt8)) (st : Nat) (pre : List UInt8) : Prop :=
  (kl = 0 ∧ nl = 0 ∧ l = [] ∧ pre = []) ∨ ((kl = 1 ∨ kl = 2) ∧ pre = txs l ∧ ∃ l0 a0 b0 q, l = l0 ++ [(a0, b0)] ∧ b0.length = 16 * q + nl ∧ 1 ≤ nl ∧ nl ≤ 16 ∧ al = a0 + 16 * q) ∨ (kl = 3 ∧ pre = tx st l)
theorem Pre.txs {kl al nl : Nat} {l : List (Nat × List UInt8)} {st : Nat} {pre : List UInt8} (h : Pre kl al nl l st pre) (h3 : kl ≠ 3) : pre = RM.txs l := by
  rcases h with ⟨-, -, rfl, rfl⟩ | ⟨-, h, -⟩ | ⟨h, -⟩
  · rfl
  · exact h
  · exact absurd h h3
/-- The first lines of a segment do not see what stands behind. -/
theorem tx1_app (a : Nat) (b0 bs : List UInt8) : ∀ j, 16 * j ≤ b0.length → tx1 a (b0 ++ bs) j = tx1 a b0 j
  | 0, _ => rfl
  | j + 1, h => by
    rw [tx1, tx1, tx1_app a b0 bs j (by omega)]
    congr 2
    rw [List.drop_append_of_le_length (by omega), List.take_append_of_le_length (by rw [List.length_drop]; omega)]
theorem line_tx {x : Ln} (h : Good x) : line (wdK x.k) x.a x.bs = x.tx ++ [10] := by
  unfold line Ln.tx
  rw [h.2]
theorem Pre.next {kl al nl : Nat} {l : List (Nat × List UInt8)} {st : Nat} {pre : List UInt8} {x : Ln} (h : Pre kl al nl l st pre) (hf : fl kl al nl x.k x.a = true) (hg : Good x) : Pre x.k x.a x.bs.length (ad x l) (if x.k = 3 then x.a else st) (pre ++ (x.tx ++ [10])) := by
  obtain ⟨h3, h2⟩ := fl_open hf
  have hp := h.txs h3
  obtain ⟨k1, -, -, k4, k5⟩ := hg.1
  rw [← line_tx hg]
  rcases k1 with hk | hk | hk
  · have hb : x.bs ≠ [] := fun e => by have := k4.2 e; omega
    have hl : 0 < x.bs.length := List.length_pos_iff.mpr hb
    refine .inr (.inl ⟨.inl hk, ?_, l, x.a, x.bs, 0, ad_one hk, by omega, hl, k5, by omega⟩)
    rw [ad_one hk, txs_snoc, hp]
    congr 1
    simp only []
    rw [show (x.bs.length + 15) / 16 = 1 by omega, tx1, tx1, hk]
    simp only [Nat.mul_zero, List.drop_zero, Nat.add_zero, List.nil_append, if_true]
    rw [List.take_of_length_le k5]
    rfl
  · obtain ⟨h16, hal⟩ := h2 hk
    rcases h with ⟨-, h0, -⟩ | ⟨-, -, l0, a0, b0, q, rfl, h5, h6, h7, h8⟩ | ⟨h, -⟩
    · omega
    · have hb : x.bs ≠ [] := fun e => by have := k4.2 e; omega
      have hl : 0 < x.bs.length := List.length_pos_iff.mpr hb
      refine .inr (.inl ⟨.inr hk, ?_, l0, a0, b0 ++ x.bs, q + 1, ad_two hk, by rw [List.length_append]; omega, hl, k5, by omega⟩)
      have e : tx1 a0 (b0 ++ x.bs) (q + 1 + 1) = tx1 a0 b0 (q + 1) ++ line (wdK x.k) x.a x.bs := by
        rw [tx1, tx1_app _ _ _ _ (by omega), hk, if_neg (by omega), show a0 + 16 * (q + 1) = x.a by omega, List.drop_append_of_le_length (by omega), List.drop_of_length_le (by omega), List.nil_append, List.take_of_length_le k5]
        rfl
      rw [ad_two hk, txs_snoc, hp, txs_snoc, List.append_assoc]
      congr 1
      simp only [List.length_append]
      rw [show (b0.length + x.bs.length + 15) / 16 = q + 1 + 1 by omega, show (b0.length + 15) / 16 = q + 1 by omega, e]
    · exact absurd h h3
  · refine .inr (.inr ⟨hk, ?_⟩)
    rw [if_pos hk, ad_three hk, hp, hk, k4.1 hk]
    rfl
/-- What lines that are read are: the text of the image. -/
theorem PL_text : ∀ {ls : List (List UInt8)} {k kl al nl st : Nat} {l l' : List (Nat × List UInt8)} {st' n : Nat} {pre : List UInt8}, PI kl al nl l → Pre kl al nl l st pre → st < 4294967296 → PL ls k kl al nl l st = (l', st', n, 0) → pre ++ fl10 ls = tx st' l' ∧ rt l' = 0 ∧ n = 0 ∧ st' < 4294967296
  | [], k, kl, al, nl, st, l, l', st', n, pre, hi, hp, hst, h => by
    unfold PL at h
    split at h
    · rename_i h3
      injection h with h1 h
      injection h with h2 h
      injection h with h4 h
      subst h1 h2 h4
      rcases hp with ⟨e, -⟩ | ⟨e, -⟩ | ⟨-, e⟩
      · omega
      · omega
      · exact ⟨by rw [e, fl10_nil, List.append_nil], hi.ok, rfl, hst⟩
    · injection h with _ h
      injection h with _ h
      injection h with _ h
      cases h
  | t :: r, k, kl, al, nl, st, l, l', st', n, pre, hi, hp, hst, h => by
    obtain ⟨x, h1, h2, h3⟩ := PL_open h
    obtain ⟨h4, h5, h6⟩ := lnE_zero h1 h2
    have hx := (rd_some.1 h1).2
    have := PL_text (hi.next h1 h2) (hp.next h4 h5) (by split; (· exact h5.1.2.1); (· exact hst)) h3
    rw [← hx, fl10_cons]
    rw [List.append_assoc, List.append_assoc] at this
    exact this
/-- A text that is read is the text of its image. -/
theorem PA_back {s : List UInt8} {l : List (Nat × List UInt8)} {st n : Nat} (h : PA s = (l, st, n, 0)) : rt l = 0 ∧ tx st l = s ∧ n = 0 ∧ st < 4294967296 := by
  unfold PA at h
  split at h
  · rename_i he
    obtain ⟨h1, h2, h3, h4⟩ := PL_text PI.new (.inl ⟨rfl, rfl, rfl, rfl⟩) (by decide) h
    rw [List.nil_append, (lL_flat he).1] at h1
    exact ⟨h2, h1.symm, h3, h4⟩
  · rename_i he
    injection h with _ h
    injection h with _ h
    injection h with _ h
    exact absurd h he
/-- How many places differ. -/
def df : List UInt8 → List UInt8 → Nat
  | a :: l, b :: m => (if a = b then 0 else 1) + df l m
  | _, _ => 0
theorem df_app : ∀ {l m : List UInt8} (l' m' : List UInt8), l.length = m.length → df (l ++ l') (m ++ m') = df l m + df l' m'
  | [], [], l', m', _ => by simp [df]
  | a :: l, b :: m, l', m', h => by
    rw [List.cons_append, List.cons_append, df, df, df_app l' m' (by simpa using h)]
    omega
  | [], b :: m, _, _, h => by simp at h
  | a :: l, [], _, _, h => by simp at h
theorem df_self : ∀ l, df l l = 0
  | [] => rfl
  | a :: l => by rw [df, if_pos rfl, df_self l]
theorem df_zero : ∀ {l m : List UInt8}, l.length = m.length → df l m = 0 → l = m
  | [], [], _, _ => rfl
  | a :: l, b :: m, h, h0 => by
    rw [df] at h0
    split at h0
    · rename_i e
      rw [e, df_zero (l := l) (m := m) (by simpa using h) (by omega)]
    · omega
  | [], b :: m, h, _ => by simp at h
  | a :: l, [], h, _ => by simp at h
theorem df_set : ∀ {l : List UInt8} {i : Nat} {c : UInt8}, i < l.length → l.getD i 0 ≠ c → df l (l.set i c) = 1
  | a :: l, 0, c, _, h => by
    rw [List.set_cons_zero, df, df_self, if_neg (by simpa using h)]
  | a :: l, i + 1, c, h, h' => by
    rw [List.set_cons_succ, df, if_pos rfl, df_set (by simpa using h) (by simpa using h')]
theorem df_two (b b' : UInt8) (h : b ≠ b') : 1 ≤ df (hxs b.toNat 2) (hxs b'.toNat 2) := by
  rcases Nat.eq_zero_or_pos (df (hxs b.toNat 2) (hxs b'.toNat 2)) with e | e
  · have := df_zero (by rw [NM.hxs_len, NM.hxs_len]) e
    exact absurd (UInt8.toNat_inj.mp (hxs_inj (k := 2) (by have := b.toNat_lt; omega) (by have := b'.toNat_lt; omega) this)) h
  · exact e
/-- Bytes that differ have digits that differ. -/
theorem df_dg : ∀ {l m : List UInt8}, l.length = m.length → df l m ≤ df (dg l) (dg m)
  | [], [], _ => by simp [df]
  | a :: l, b :: m, h => by
    have ih := df_dg (l := l) (m := m) (by simpa using h)
    rw [dg_cons, dg_cons, df_app _ _ (by rw [NM.hxs_len, NM.hxs_len]), df]
    split
    · omega
    · rename_i e
      have := df_two a b e
      omega
  | [], b :: m, h => by simp at h
  | a :: l, [], h => by simp at h
theorem tot_one : ∀ {l m : List UInt8}, l.length = m.length → df l m = 1 → tot l % 256 ≠ tot m % 256
  | [], [], _, h => by simp [df] at h
  | a :: l, b :: m, h, h1 => by
    rw [df] at h1
    rw [tot, tot]
    split at h1
    · rename_i e
      have := tot_one (l := l) (m := m) (by simpa using h) (by omega)
      rw [e]
      omega
    · rename_i e
      have h2 := df_zero (l := l) (m := m) (by simpa using h) (by omega)
      rw [h2]
      have h3 : a.toNat ≠ b.toNat := fun e' => e (UInt8.toNat_inj.mp e')
      have h4 := a.toNat_lt
      have h5 := b.toNat_lt
      omega
  | [], b :: m, h, _ => by simp at h
  | a :: l, [], h, _ => by simp at h
/-- The four bytes of an address. -/
def be4 (a : Nat) : List UInt8 := [UInt8.ofNat (a / 16777216), UInt8.ofNat (a / 65536), UInt8.ofNat (a / 256), UInt8.ofNat a]
theorem ofNat_toNat (n : Nat) : (UInt8.ofNat n).toNat = n % 256 := by simp
theorem be4_dg {a : Nat} (_h : a < 4294967296) : dg (be4 a) = hxs a 8 := by
  have e : ∀ n, hxs ((UInt8.ofNat n).toNat) 2 = [hx (n / 16 % 16), hx (n % 16)] := fun n => by
    rw [ofNat_toNat]
    show [hx (n % 256 / 16 ^ 1 % 16), hx (n % 256 / 16 ^ 0 % 16)] = _
    rw [show n % 256 / 16 ^ 1 % 16 = n / 16 % 16 by omega, show n % 256 / 16 ^ 0 % 16 = n % 16 by omega]
  unfold be4
  rw [dg_cons, dg_cons, dg_cons, dg_cons, e, e, e, e]
  show _ = [hx (a / 16 ^ 7 % 16), hx (a / 16 ^ 6 % 16), hx (a / 16 ^ 5 % 16), hx (a / 16 ^ 4 % 16), hx (a / 16 ^ 3 % 16), hx (a / 16 ^ 2 % 16), hx (a / 16 ^ 1 % 16), hx (a / 16 ^ 0 % 16)]
  rw [show a / 16777216 / 16 % 16 = a / 16 ^ 7 % 16 by omega, show a / 16777216 % 16 = a / 16 ^ 6 % 16 by omega, show a / 65536 / 16 % 16 = a / 16 ^ 5 % 16 by omega, show a / 65536 % 16 = a / 16 ^ 4 % 16 by omega, show a / 256 / 16 % 16 = a / 16 ^ 3 % 16 by omega, show a / 256 % 16 = a / 16 ^ 2 % 16 by omega, show a / 16 % 16 = a / 16 ^ 1 % 16 by omega, show a % 16 = a / 16 ^ 0 % 16 by omega]
  rfl
theorem be4_tot {a : Nat} (h : a < 4294967296) : tot (be4 a) = ab a := by
  unfold be4 ab
  simp only [tot, ofNat_toNat]
  omega
/-- A line's bytes: of the address, its own, the sum. -/
def lb (x : Ln) : List UInt8 := be4 x.a ++ (x.bs ++ [UInt8.ofNat x.s])
theorem lb_tot {x : Ln} (h : Good x) : tot (lb x) % 256 = 0 := by
  unfold lb
  rw [tot_app, tot_app, be4_tot h.1.2.1, h.2]
  simp only [tot, ofNat_toNat, sm, ng]
  omega
theorem lb_dg {x : Ln} (h : x.ok) : dg (lb x) = hxs x.a 8 ++ (dg x.bs ++ hxs x.s 2) := by
  unfold lb
  rw [dg_app, dg_app, be4_dg h.2.1]
  have : dg [UInt8.ofNat x.s] = hxs x.s 2 := by
    rw [dg_cons, ofNat_toNat, Nat.mod_eq_of_lt h.2.2.1]
    simp [dg]
  rw [this]
theorem tx_len3 {x : Ln} (h : x.ok) (h3 : x.k = 3) : x.tx.length = 17 := by
  unfold Ln.tx
  rw [h.2.2.2.1.1 h3, px_nil, h3]
  simp only [List.length_append, NM.hxs_len, List.length_singleton]
  rfl
theorem tx_len1 {x : Ln} (h : x.ok) (h3 : x.k ≠ 3) : x.tx.length = 16 + 2 * x.bs.length := by
  unfold Ln.tx
  have hb : x.bs ≠ [] := fun e => h3 (h.2.2.2.1.2 e)
  have hw : (wdK x.k).length = 3 := by rcases h.1 with e | e | e; (· rw [e]; rfl); (· rw [e]; rfl); (· exact absurd e h3)
  rw [px_some _ _ _ hb]
  simp only [List.length_append, NM.hxs_len, List.length_singleton, dg_len, hw]
  omega
/-- Two right lines of one length do not differ at one place alone. -/
theorem good_apart {x y : Ln} (hx : Good x) (hy : Good y) (hl : x.tx.length = y.tx.length) (hd : df x.tx y.tx = 1) : False := by
  have key : x.bs.length = y.bs.length → df (hxs x.a 8 ++ (dg x.bs ++ hxs x.s 2)) (hxs y.a 8 ++ (dg y.bs ++ hxs y.s 2)) = 1 → False := fun h1 h2 => by
    rw [← lb_dg hx.1, ← lb_dg hy.1] at h2
    have h3 : (lb x).length = (lb y).length := by unfold lb be4; simp [h1]
    have h4 := df_dg h3
    rcases Nat.eq_zero_or_pos (df (lb x) (lb y)) with e | e
    · rw [df_zero h3 e, df_self] at h2
      cases h2
    · exact tot_one h3 (by omega) (by rw [lb_tot hx, lb_tot hy])
  have hs : ∀ (b : UInt8) (l m : List UInt8), df ([b] ++ l) ([b] ++ m) = df l m := fun b l m => by rw [df_app _ _ rfl, df_self, Nat.zero_add]
  by_cases h3 : x.k = 3
  · have h4 : y.k = 3 := by
      by_cases h4 : y.k = 3
      · exact h4
      · rw [tx_len3 hx.1 h3, tx_len1 hy.1 h4] at hl; omega
    have e1 := hx.1.2.2.2.1.1 h3
    have e2 := hy.1.2.2.2.1.1 h4
    refine key (by rw [e1, e2]) ?_
    unfold Ln.tx at hd
    rw [e1, e2, px_nil, px_nil, h3, h4, df_app _ _ rfl, df_self, Nat.zero_add, df_app _ _ (by rw [NM.hxs_len, NM.hxs_len]), hs] at hd
    rw [e1, e2, df_app _ _ (by rw [NM.hxs_len, NM.hxs_len])]
    exact hd
  · have h4 : y.k ≠ 3 := fun h4 => by rw [tx_len1 hx.1 h3, tx_len3 hy.1 h4] at hl; omega
    have hb1 : x.bs ≠ [] := fun e => h3 (hx.1.2.2.2.1.2 e)
    have hb2 : y.bs ≠ [] := fun e => h4 (hy.1.2.2.2.1.2 e)
    have hn : x.bs.length = y.bs.length := by rw [tx_len1 hx.1 h3, tx_len1 hy.1 h4] at hl; omega
    have hw : df (wdK x.k) (wdK y.k) ≠ 1 ∧ (wdK x.k).length = (wdK y.k).length := by
      rcases hx.1.1 with e | e | e
      · rcases hy.1.1 with e' | e' | e'
        · rw [e, e']; decide
        · rw [e, e']; decide
        · exact absurd e' h4
      · rcases hy.1.1 with e' | e' | e'
        · rw [e, e']; decide
        · rw [e, e']; decide
        · exact absurd e' h4
      · exact absurd e h3
    refine key hn ?_
    unfold Ln.tx at hd
    rw [px_some _ _ _ hb1, px_some _ _ _ hb2, List.append_assoc, List.append_assoc, df_app _ _ hw.2, hs, df_app _ _ (by rw [NM.hxs_len, NM.hxs_len]), hs, df_app _ _ (by rw [dg_len, dg_len, hn]), hs] at hd
    rw [df_app _ _ (by rw [NM.hxs_len, NM.hxs_len]), df_app _ _ (by rw [dg_len, dg_len, hn])]
    have h5 : df (wdK x.k) (wdK y.k) = 0 ∨ 2 ≤ df (wdK x.k) (wdK y.k) := by have := hw.1; omega
    rcases h5 with h5 | h5
    · omega
    · omega
/-- Where lines differ at one place, two lines do. -/
theorem fl10_apart : ∀ {A B : List (List UInt8)}, (∀ x ∈ A, ∀ c ∈ x, c ≠ 10) → (∀ x ∈ B, ∀ c ∈ x, c ≠ 10) → (fl10 A).map (· == 10) = (fl10 B).map (· == 10) → df (fl10 A) (fl10 B) = 1 → ∃ x ∈ A, ∃ y ∈ B, x.length = y.length ∧ df x y = 1
  | [], [], _, _, _, h => by simp [fl10, df] at h
  | [], y :: B, _, _, h, _ => by simp [fl10] at h
  | x :: A, [], _, _, h, _ => by simp [fl10] at h
  | x :: A, y :: B, hA, hB, hm, hd => by
    have cut : ∀ {u v : List UInt8} {r s : List Bool}, (∀ c ∈ u, c ≠ 10) → (∀ c ∈ v, c ≠ 10) → u.map (· == 10) ++ true :: r = v.map (· == 10) ++ true :: s → u.length = v.length ∧ r = s := by
      intro u
      induction u with
      | nil =>
        intro v r s _ hv h
        cases v with
        | nil => simpa using h
        | cons c v =>
          have := hv c (by simp)
          simp [this] at h
      | cons b u ih =>
        intro v r s hu hv h
        cases v with
        | nil =>
          have := hu b (by simp)
          simp [this] at h
        | cons c v =>
          rw [List.map_cons, List.map_cons, List.cons_append, List.cons_append] at h
          injection h with _ h
          obtain ⟨h1, h2⟩ := ih (fun d hd => hu d (List.mem_cons_of_mem _ hd)) (fun d hd => hv d (List.mem_cons_of_mem _ hd)) h
          exact ⟨by rw [List.length_cons, List.length_cons, h1], h2⟩
    rw [fl10_cons, fl10_cons, List.map_append, List.map_append, List.map_cons, List.map_cons] at hm
    obtain ⟨h1, h2⟩ := cut (hA x (by simp)) (hB y (by simp)) hm
    rw [fl10_cons, fl10_cons, df_app _ _ h1, df, if_pos rfl, Nat.zero_add] at hd
    by_cases h3 : df x y = 1
    · exact ⟨x, by simp, y, by simp, h1, h3⟩
    · have h4 : df (fl10 A) (fl10 B) = 1 := by
        by_cases h5 : df x y = 0
        · omega
        · omega
      obtain ⟨u, hu, v, hv, h⟩ := fl10_apart (fun u hu => hA u (List.mem_cons_of_mem _ hu)) (fun u hu => hB u (List.mem_cons_of_mem _ hu)) h2 h4
      exact ⟨u, List.mem_cons_of_mem _ hu, v, List.mem_cons_of_mem _ hv, h⟩
theorem map_set_same {l : List UInt8} {i : Nat} {c : UInt8} (h : l.getD i 0 ≠ 10) (hc : c ≠ 10) (hi : i < l.length) : (l.set i c).map (· == 10) = l.map (· == 10) := by
  rw [List.map_set]
  apply List.ext_getElem
  · simp
  · intro j h1 h2
    rw [List.getElem_set]
    split
    · rename_i e
      subst e
      rw [List.getElem_map]
      rw [List.getD_eq_getElem?_getD, List.getElem?_eq_getElem hi] at h
      have h' : l[i] ≠ 10 := h
      show (c == 10) = (l[i] == 10)
      rw [beq_eq_false_iff_ne.mpr hc, beq_eq_false_iff_ne.mpr h']
    · rfl
theorem count_map (l : List UInt8) : Lib.countByte l 10 = (l.map (· == 10)).count true := by
  unfold Lib.countByte
  induction l with
  | nil => rfl
  | cons a l ih =>
    rw [List.count_cons, List.map_cons, List.count_cons, ih]
    congr 1
    by_cases h : a = 10 <;> simp [h]
/-- A changed digit leaves the lines as they are. -/
theorem lE_set {l : List UInt8} {i : Nat} {c : UInt8} (h0 : NM.lE l = 0) (hi : i < l.length) (h : l.getD i 0 ≠ 10) (hc : NM.okb c = true) (hc' : c ≠ 10) : NM.lE (l.set i c) = 0 := by
  have hm := map_set_same h hc' hi
  have hcount : Lib.countByte (l.set i c) 10 = Lib.countByte l 10 := by rw [count_map, count_map, hm]
  unfold NM.lE at h0
  split at h0
  · cases h0
  · rename_i h1
    split at h0
    · cases h0
    · rename_i h2
      have a1 : NM.aok l = true := by cases e : NM.aok l with | true => rfl | false => exact absurd (.inl e) h2
      have a2 : ¬ (NM.ln l l.length).2 < l.length := fun e => h2 (.inr e)
      have a3 : NM.aok (l.set i c) = true := by
        unfold NM.aok at a1 ⊢
        rw [List.all_eq_true] at a1 ⊢
        intro x hx
        rcases List.mem_or_eq_of_mem_set hx with hx | hx
        · exact a1 x hx
        · rw [hx]; exact hc
      have a4 : ¬ (NM.ln (l.set i c) (l.set i c).length).2 < (l.set i c).length := by
        rw [List.length_set]
        obtain ⟨k, hk⟩ : ∃ k, l.length = k + 1 := ⟨l.length - 1, by omega⟩
        rw [hk] at a2 ⊢
        rw [NM.ln_last] at a2 ⊢
        have a5 : l.getD k 0 = 10 := by
          by_cases e : l.getD k 0 = 10
          · exact e
          · exact absurd e a2
        have a6 : i ≠ k := fun e => h (by rw [e]; exact a5)
        rw [List.getD_eq_getElem?_getD, List.getElem?_set_ne a6, ← List.getD_eq_getElem?_getD]
        exact a2
      unfold NM.lE
      rw [List.length_set, hcount, if_neg h1, if_neg]
      rintro (e | e)
      · rw [a3] at e; cases e
      · exact a4 (by rw [List.length_set]; exact e)
/-- One changed byte, no line feed: the text is not read, and a line is named. -/
theorem PA_find {st : Nat} {l : List (Nat × List UInt8)} (h : rt l = 0) (hst : st < 4294967296) {i : Nat} {c : UInt8} (hi : i < (tx st l).length) (h10 : (tx st l).getD i 0 ≠ 10) (hc : NM.okb c = true) (hc' : c ≠ 10) (hne : (tx st l).getD i 0 ≠ c) : (PA ((tx st l).set i c)).2.2.2 ≠ 0 ∧ 0 < (PA ((tx st l).set i c)).2.2.1 := by
  obtain ⟨h1, h2⟩ := tx_lL h hst
  have h3 := lE_set h1 hi h10 hc hc'
  have h4 : PA ((tx st l).set i c) = PL (NM.lL ((tx st l).set i c)) 0 0 0 0 [] 0 := by unfold PA; rw [if_pos h3]
  have pos : ∀ (ls : List (List UInt8)) (k kl al nl st : Nat) (l : List (Nat × List UInt8)), (PL ls k kl al nl l st).2.2.2 = 0 ∨ 0 < (PL ls k kl al nl l st).2.2.1 := by
    intro ls
    induction ls with
    | nil =>
      intro k kl al nl st l
      unfold PL
      split
      · exact .inl rfl
      · exact .inr (Nat.succ_pos _)
    | cons t r ih =>
      intro k kl al nl st l
      by_cases he : lnE kl al nl l t = 0
      · cases hr : rd t with
        | none => rw [lnE_none hr] at he; cases he
        | some x => rw [PL_good hr he]; exact ih _ _ _ _ _ _
      · rw [PL_bad he]; exact .inr (Nat.succ_pos _)
  have ne : (PA ((tx st l).set i c)).2.2.2 ≠ 0 := fun e => by
    obtain ⟨l', st', n, e'⟩ : ∃ l' st' n, PA ((tx st l).set i c) = (l', st', n, 0) := ⟨_, _, _, by rw [← e]⟩
    rw [h4] at e'
    have hg := PL_goods e'
    obtain ⟨f1, f2⟩ := lL_flat h3
    have hd : df (tx st l) ((tx st l).set i c) = 1 := df_set hi hne
    have hm := map_set_same h10 hc' hi
    have gA : fl10 ((lnT st l).map Ln.tx) = tx st l := (tx_lines st l).symm
    have gB : ∀ x ∈ (lnT st l).map Ln.tx, ∀ c ∈ x, c ≠ 10 := fun x hx c hc => by
      obtain ⟨y, -, rfl⟩ := List.mem_map.1 hx
      exact (tx_okb y c hc).2
    obtain ⟨x, hx, y, hy, e1, e2⟩ := fl10_apart (A := (lnT st l).map Ln.tx) (B := NM.lL ((tx st l).set i c)) gB f2 (by rw [gA, f1, hm]) (by rw [gA, f1]; exact hd)
    obtain ⟨u, hu, rfl⟩ := List.mem_map.1 hx
    obtain ⟨v, hv, rfl⟩ := hg y hy
    exact good_apart (lnT_good h hst u hu) hv e1 e2
  refine ⟨ne, ?_⟩
  rw [h4] at ne ⊢
  exact (pos _ _ _ _ _ _ _).resolve_left ne
end RM
end Go.Proofs.YtcilhippjiichaaDoor
