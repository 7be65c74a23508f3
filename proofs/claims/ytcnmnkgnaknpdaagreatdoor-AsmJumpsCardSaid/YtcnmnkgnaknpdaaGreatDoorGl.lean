/-
  The table of directives: its making, and a directive looked up and done.
  The table of directives, made.
  A directive looked up in the table and done.
  A directive, looked up in the table and done.
-/
import Derived.Test.YtcnmnkgnaknpdaaGreatDoorGk
import Derived.Deep.RegionHeld3

/-! WalkK -/
namespace Go.Proofs.YtcnmnkgnaknpdaaGreatDoor
open Go.RowKit Go.Maps S02 S06 S07
/-- The handler of a directive that lays values. -/
def DirD (q : Q) (w : World) (r : Value) (size lo hi : Int) : Prop :=
  ∃ k1 k3 k4 k6, r = .func (.func 127) #[] #[pt k1, pt k3, pt k4, pt k6] ∧ Box w k1 60 (pt q.P) ∧ Box w k3 2 (.int .i64 lo) ∧ Box w k4 2 (.int .i64 hi) ∧ Box w k6 3 (.int .i64 size)
theorem DirD.keep {q : Q} {w w' : World} {r : Value} {size lo hi : Int} (h : DirD q w r size lo hi) (ht : Tame w w') : DirD q w' r size lo hi := by
  obtain ⟨k1, k3, k4, k6, hr, b1, b3, b4, b6⟩ := h
  exact ⟨k1, k3, k4, k6, hr, b1.keep ht rfl, b3.keep ht rfl, b4.keep ht rfl, b6.keep ht rfl⟩
def DtPost (q : Q) (w : World) (size lo hi : Int) (e : Ending) (w' : World) : Prop := ∃ k1 k3 k4 k6, e = .returned (.func (.func 127) #[] #[pt k1, pt k3, pt k4, pt k6]) ∧ Below w.heap.size w w' ∧ Box w' k1 60 (pt q.P) ∧ Box w' k3 2 (.int .i64 lo) ∧ Box w' k4 2 (.int .i64 hi) ∧ Box w' k6 3 (.int .i64 size)
theorem data_any (q : Q) (size lo hi : Int) (w : World) : Calls Tryz.prog 88 #[pt q.P, .int .i64 size, .int .i64 lo, .int .i64 hi] w (DtPost q w size lo hi) := by
  have e1 := Box.new w 60 (pt q.P)
  have e2 := Box.new (w.alloc (.cells #[pt q.P] 60)) 3 (.int .i64 size)
  have e3 := Box.new ((w.alloc (.cells #[pt q.P] 60)).alloc (.cells #[.int .i64 size] 3)) 2 (.int .i64 lo)
  have e4 := Box.new (((w.alloc (.cells #[pt q.P] 60)).alloc (.cells #[.int .i64 size] 3)).alloc (.cells #[.int .i64 lo] 2)) 2 (.int .i64 hi)
  rw [show (w.alloc (.cells #[pt q.P] 60)).heap.size = w.heap.size + 1 by simp] at e2
  rw [show ((w.alloc (.cells #[pt q.P] 60)).alloc (.cells #[.int .i64 size] 3)).heap.size = w.heap.size + 2 by simp] at e3
  rw [show (((w.alloc (.cells #[pt q.P] 60)).alloc (.cells #[.int .i64 size] 3)).alloc (.cells #[.int .i64 lo] 2)).heap.size = w.heap.size + 3 by simp] at e4
  have hb := (below_two w (.cells #[pt q.P] 60) (.cells #[.int .i64 size] 3)).trans ((below_two _ (.cells #[.int .i64 lo] 2) (.cells #[.int .i64 hi] 2)).mono (by simp; omega))
  have HH := Lib.hid (show DtPost q w size lo hi (.returned (.func (.func 127) #[] #[pt w.heap.size, pt (w.heap.size + 2), pt (w.heap.size + 3), pt (w.heap.size + 1)])) _ from ⟨_, _, _, _, rfl, hb, ((e1.more _).more _).more _, e3.more _, e4, (e2.more _).more _⟩)
  clear e1 e2 e3 e4 hb
  unfold pt at HH ⊢
  go_enter Tryz.func88, Tryz.ntmps88
  go_wp2
  go_ret
  exact HH.out
/-- The table of directives in memory. -/
def dirC (kb : Nat) (d2 d3 : Value) : Array Value := #[.string ⟨#[46, 111, 114, 103]⟩, .int .i64 1, .int .i64 1, .func (.func 84) #[] #[pt kb], .string ⟨#[46, 115, 112, 97, 99, 101]⟩, .int .i64 1, .int .i64 1, .func (.func 86) #[] #[pt kb], .string ⟨#[46, 119, 111, 114, 100]⟩, .int .i64 1, .int .i64 9223372036854775807, d2, .string ⟨#[46, 98, 121, 116, 101]⟩, .int .i64 1, .int .i64 9223372036854775807, d3, .string ⟨#[46, 101, 113, 117]⟩, .int .i64 2, .int .i64 2, .func (.func 89) #[] #[pt kb]]
def Dirs (q : Q) (w : World) (v : Value) : Prop := ∃ g kb d2 d3, v = .slice (some ⟨g, 0, none⟩) 5 5 ∧ Box w kb 60 (pt q.P) ∧ w.heap[g]? = some (.cells (dirC kb d2 d3) 158 (0, 0)) ∧ DirD q w d2 4 (-2147483648) 4294967295 ∧ DirD q w d3 1 (-128) 255
theorem Dirs.keep {q : Q} {w w' : World} {v : Value} (h : Dirs q w v) (ht : Tame w w') : Dirs q w' v := by
  obtain ⟨g, kb, d2, d3, hv, hb, hg, h2, h3⟩ := h
  exact ⟨g, kb, d2, d3, hv, hb.keep ht rfl, (ht.block g (by rw [hg]; rfl)).trans hg, h2.keep ht, h3.keep ht⟩
def DrPost (q : Q) (w : World) (e : Ending) (w' : World) : Prop := ∃ v, e = .returned v ∧ Below w.heap.size w w' ∧ Dirs q w' v
def DS (w : World) (kb : Nat) (v : Value) (W : World) : Prop := Below kb w W ∧ Box W kb 60 v
theorem dk_drew {w W : World} {kb : Nat} {v : Value} (h : W.cell? ⟨kb, 0, none⟩ = some v ∧ Hid (DS w kb v W)) : W.drew.cell? ⟨kb, 0, none⟩ = some v ∧ Hid (DS w kb v W.drew) := ⟨h.1, Lib.hid ⟨h.2.out.1.drew, h.2.out.2⟩⟩
theorem dk_call {w W W' : World} {kb : Nat} {v : Value} (hb : Hid (Below W.heap.size W W')) (h : W.cell? ⟨kb, 0, none⟩ = some v ∧ Hid (DS w kb v W)) : W'.cell? ⟨kb, 0, none⟩ = some v ∧ Hid (DS w kb v W') :=
  ⟨(hb.out.cell (p := ⟨kb, 0, none⟩) (lt_of_heap h.2.out.2)).trans h.1, Lib.hid ⟨h.2.out.1.trans (hb.out.mono (Nat.le_of_lt (lt_of_heap h.2.out.2))), h.2.out.2.below hb.out⟩⟩
theorem dk_new {w W : World} {kb : Nat} {v : Value} (o : Obj) (h : W.cell? ⟨kb, 0, none⟩ = some v ∧ Hid (DS w kb v W)) : (W.alloc o).cell? ⟨kb, 0, none⟩ = some v ∧ Hid (DS w kb v (W.alloc o)) :=
  dk_call (Lib.hid (below_one W o)) h
def DX (w : World) (q : Q) (k1 k3 k4 k6 : Nat) (size lo hi : Int) : Prop := Box w k1 60 (pt q.P) ∧ Box w k3 2 (.int .i64 lo) ∧ Box w k4 2 (.int .i64 hi) ∧ Box w k6 3 (.int .i64 size)
theorem DX.below {w w' : World} {q : Q} {k1 k3 k4 k6 : Nat} {size lo hi : Int} (h : DX w q k1 k3 k4 k6 size lo hi) (hb : Below w.heap.size w w') : DX w' q k1 k3 k4 k6 size lo hi := ⟨h.1.below hb, h.2.1.below hb, h.2.2.1.below hb, h.2.2.2.below hb⟩
theorem dr_all {w W : World} {q : Q} {kb k1 k3 k4 k6 j1 j3 j4 j6 : Nat} {c : Array Value} (hk : w.heap.size = kb) (hc : c = dirC kb (.func (.func 127) #[] #[pt k1, pt k3, pt k4, pt k6]) (.func (.func 127) #[] #[pt j1, pt j3, pt j4, pt j6])) (h : DS w kb (pt q.P) (W.alloc (.cells c 158))) (h1 : DX W q k1 k3 k4 k6 4 (-2147483648) 4294967295) (h2 : DX W q j1 j3 j4 j6 1 (-128) 255) : DrPost q w (.returned (.slice (some ⟨W.heap.size, 0, none⟩) 5 5)) (W.alloc (.cells c 158)) := by
  subst hk hc
  have hb := below_one W (.cells (dirC w.heap.size (.func (.func 127) #[] #[pt k1, pt k3, pt k4, pt k6]) (.func (.func 127) #[] #[pt j1, pt j3, pt j4, pt j6])) 158)
  have g1 := h1.below hb
  have g2 := h2.below hb
  refine ⟨_, rfl, h.1, _, _, _, _, rfl, h.2, ?_, ⟨_, _, _, _, rfl, g1.1, g1.2.1, g1.2.2.1, g1.2.2.2⟩, ⟨_, _, _, _, rfl, g2.1, g2.2.1, g2.2.2.1, g2.2.2.2⟩⟩
  show (W.heap.push _)[W.heap.size]? = _
  simp
theorem dr_end1 {w wa wb : World} {q : Q} {kb k1 k3 k4 k6 j1 j3 j4 j6 : Nat} {c : Array Value} (hk : Hid (w.heap.size = kb)) (hc : c = dirC kb (.func (.func 127) #[] #[pt k1, pt k3, pt k4, pt k6]) (.func (.func 127) #[] #[pt j1, pt j3, pt j4, pt j6])) (hb : Hid (Below wa.heap.size wa wb)) (h1 : Hid (DX wa q k1 k3 k4 k6 4 (-2147483648) 4294967295)) (h2 : Hid (DX wb q j1 j3 j4 j6 1 (-128) 255)) (h : (wb.alloc (.cells c 158)).cell? ⟨kb, 0, none⟩ = some (pt q.P) ∧ Hid (DS w kb (pt q.P) (wb.alloc (.cells c 158)))) :
    DrPost q w (.returned (.slice (some ⟨wb.heap.size, 0, none⟩) 5 5)) (wb.alloc (.cells c 158)) := dr_all hk.out hc h.2.out (h1.out.below hb.out) h2.out
end Go.Proofs.YtcnmnkgnaknpdaaGreatDoor
/-! WalkX -/
namespace Go.Proofs.YtcnmnkgnaknpdaaGreatDoor
open Go.RowKit Go.Maps S02 S06 S07
set_option maxHeartbeats 40000000 in
theorem directives_any (q : Q) (w : World) : Calls Tryz.prog 48 #[pt q.P] w (DrPost q w) := by
  have HB := Lib.hid (Box.new w 60 (pt q.P))
  have HL := Lib.hid (below_one w (.cells #[pt q.P] 60))
  have HD := Lib.hid (data_any q)
  obtain ⟨kb, hk⟩ : ∃ kb, w.heap.size = kb := ⟨_, rfl⟩
  rw [hk] at HB HL
  have HK := Lib.hid hk
  clear hk
  unfold pt
  unfold pt at HB HL HD
  go_enter Tryz.func48, Tryz.ntmps48
  go_wp2
  rw [HK.out]
  generalize w.alloc (.cells #[.pointer (some ⟨q.P, 0, none⟩)] 60) = W at *
  have d1 := HB.out.cell
  have HS := Lib.hid (show W.cell? ⟨kb, 0, none⟩ = some (.pointer (some ⟨q.P, 0, none⟩)) ∧ Hid (DS w kb (.pointer (some ⟨q.P, 0, none⟩)) W) from ⟨d1, Lib.hid ⟨HL.out, HB.out⟩⟩)
  clear d1 HB HL
  go_region_held3 (fun w' => w'.cell? ⟨kb, 0, none⟩ = some (.pointer (some ⟨q.P, 0, none⟩)) ∧ Hid (DS w kb (.pointer (some ⟨q.P, 0, none⟩)) w'))
    (first | assumption | exact dk_drew HS.out | (refine dk_new _ ?_; assumption) | exact dk_call (by assumption) (by assumption))
    (first | (go_at_call 88; refine (HD.out _ _ _ _).mono ?_; rintro e w1 ⟨k1, k3, k4, k6, rfl, hb1, x1, x3, x4, x6⟩; have HX := Lib.hid (show DX w1 q k1 k3 k4 k6 _ _ _ from ⟨x1, x3, x4, x6⟩); have HBB := Lib.hid hb1; clear hb1 x1 x3 x4 x6))
  all_goals go_wp2
  all_goals go_ret
  all_goals exact dr_end1 HK rfl (by assumption) (by assumption) (by assumption) (by assumption)
end Go.Proofs.YtcnmnkgnaknpdaaGreatDoor
/-! WalkL -/
namespace Go.Proofs.YtcnmnkgnaknpdaaGreatDoor
open Go.RowKit Go.Maps S02 S06 S07
/-- Is a line's first word the directive of this place, with a number of words that it takes? -/
def cnd (d : List UInt8) (n : Nat) : Nat → Prop
  | 0 => d = AS.dOrg ∧ n = 1
  | 1 => d = AS.dSpace ∧ n = 1
  | 2 => d = AS.dWord ∧ 1 ≤ n
  | 3 => d = AS.dByte ∧ 1 ≤ n
  | _ => d = AS.dEqu ∧ n = 2
theorem one_0 {st : AS.St} {line : Nat} {d : List UInt8} {r : List (List UInt8)} (hd : Lib.hasPrefix d [46] = true) (h : cnd d r.length 0) : AS.one st line (d :: r) = (AS.nbE (r.getD 0 []) 0 16384, { st with pos := (AS.nbN (r.getD 0 []) 0 16384).toNat }) := by
  simp only [cnd] at h
  rw [AS.one]
  rw [if_neg (by rw [hd]; simp), if_pos h]
theorem one_1 {st : AS.St} {line : Nat} {d : List UInt8} {r : List (List UInt8)} (hd : Lib.hasPrefix d [46] = true) (h0 : ¬ cnd d r.length 0) (h : cnd d r.length 1) : AS.one st line (d :: r) = (if AS.nbE (r.getD 0 []) 0 16384 = 0 then AS.lay st 4 line 1 (AS.nbN (r.getD 0 []) 0 16384).toNat [] else (AS.nbE (r.getD 0 []) 0 16384, st)) := by
  simp only [cnd] at h0 h
  rw [AS.one]
  rw [if_neg (by rw [hd]; simp), if_neg h0, if_pos h]
theorem one_2 {st : AS.St} {line : Nat} {d : List UInt8} {r : List (List UInt8)} (hd : Lib.hasPrefix d [46] = true) (h0 : ¬ cnd d r.length 0) (h1 : ¬ cnd d r.length 1) (h : cnd d r.length 2) : AS.one st line (d :: r) = AS.lay st 2 line 4 (4 * r.length) r := by
  simp only [cnd] at h0 h1 h
  rw [AS.one]
  rw [if_neg (by rw [hd]; simp), if_neg h0, if_neg h1, if_pos h]
theorem one_3 {st : AS.St} {line : Nat} {d : List UInt8} {r : List (List UInt8)} (hd : Lib.hasPrefix d [46] = true) (h0 : ¬ cnd d r.length 0) (h1 : ¬ cnd d r.length 1) (h2 : ¬ cnd d r.length 2) (h : cnd d r.length 3) : AS.one st line (d :: r) = AS.lay st 3 line 1 (1 * r.length) r := by
  simp only [cnd] at h0 h1 h2 h
  rw [AS.one]
  rw [if_neg (by rw [hd]; simp), if_neg h0, if_neg h1, if_neg h2, if_pos h]
theorem one_4 {st : AS.St} {line : Nat} {d : List UInt8} {r : List (List UInt8)} (hd : Lib.hasPrefix d [46] = true) (h0 : ¬ cnd d r.length 0) (h1 : ¬ cnd d r.length 1) (h2 : ¬ cnd d r.length 2) (h3 : ¬ cnd d r.length 3) (h : cnd d r.length 4) : AS.one st line (d :: r) = (if AS.frE st.names (r.getD 0 []) = 0 then (AS.nbE (r.getD 1 []) (-2147483648) 4294967295, { st with names := st.names ++ [(r.getD 0 [], (AS.nbN (r.getD 1 []) (-2147483648) 4294967295 % 4294967296).toNat)] }) else (AS.frE st.names (r.getD 0 []), st)) := by
  simp only [cnd] at h0 h1 h2 h3 h
  rw [AS.one]
  rw [if_neg (by rw [hd]; simp), if_neg h0, if_neg h1, if_neg h2, if_neg h3, if_pos h]
theorem one_5 {st : AS.St} {line : Nat} {d : List UInt8} {r : List (List UInt8)} (hd : Lib.hasPrefix d [46] = true) (h : ∀ j, j < 5 → ¬ cnd d r.length j) : AS.one st line (d :: r) = (2, st) := by
  have a0 := h 0 (by omega)
  have a1 := h 1 (by omega)
  have a2 := h 2 (by omega)
  have a3 := h 3 (by omega)
  have a4 := h 4 (by omega)
  clear h
  simp only [cnd] at a0 a1 a2 a3 a4
  rw [AS.one]
  rw [if_neg (by rw [hd]; simp), if_neg a0, if_neg a1, if_neg a2, if_neg a3, if_neg a4]
/-- What a line lays, if it lays anything: the item that the state behind it has more. -/
def itOf (st st' : AS.St) : Option AS.It := if st'.items.length = st.items.length then none else st'.items.getLast?
theorem it_same {st st' : AS.St} (h : st'.items = st.items) : itOf st st' = none := by unfold itOf; rw [h, if_pos rfl]
theorem it_put (st : AS.St) (kind line size : Nat) (words : List (List UInt8)) : itOf st (AS.put st kind line size words) = some ⟨kind, line, st.pos, size, words⟩ := by
  unfold itOf AS.put
  rw [if_neg (by simp)]
  simp
theorem HdPost.weaken {q : Q} {w w' : World} {er er' : Int} {st1 st2 : AS.St} {it1 it2 : Option AS.It} {e : Ending} (h : HdPost q w er st1 it1 e w') (he : er = er') (hk : er = 0 → st1 = st2 ∧ it1 = it2) : HdPost q w er' st2 it2 e w' := by
  subst he
  obtain ⟨r, h1, h2, h3⟩ := h
  refine ⟨r, h1, h2, fun h0 => ?_⟩
  obtain ⟨rfl, rfl⟩ := hk h0
  exact h3 h0
theorem HdPost.from {q : Q} {w w1 w' : World} {er : Int} {st : AS.St} {it : Option AS.It} {e : Ending} (h : HdPost q w1 er st it e w') (mv : Mv q w w1) : HdPost q w er st it e w' := by
  obtain ⟨r, h1, h2, h3⟩ := h
  exact ⟨r, h1, mv.trans h2, h3⟩
/-- What each handler of the table does. -/
theorem handler_any {q : Q} {w : World} {st : AS.St} (line : Nat) (k : Nat) (d : List UInt8) (r : List (List UInt8)) (v : Value) (kb : Nat) (d2 d3 : Value) (hp : S1 q w st) (hx : st.pos ≤ 16384) (hn : st.names.length ≤ 1000000) (hb : Box w kb 60 (pt q.P)) (h2 : DirD q w d2 4 (-2147483648) 4294967295) (h3 : DirD q w d3 1 (-128) 255) (hv : TxR w v r) (hz : ∀ y ∈ r, y.length ≤ 1000000) (hl : r.length ≤ 200000) (hd : Lib.hasPrefix d [46] = true) (hk : k < 5) (hc : cnd d r.length k) (hj : ∀ j, j < k → ¬ cnd d r.length j) :
    ∃ f cap, (dirC kb d2 d3)[4 * k + 3]? = some (.func (.func f) #[] cap) ∧ Calls Tryz.prog f (#[v] ++ cap) w (HdPost q w (AS.one st line (d :: r)).1 (AS.one st line (d :: r)).2 (itOf st (AS.one st line (d :: r)).2)) := by
  have : k = 0 ∨ k = 1 ∨ k = 2 ∨ k = 3 ∨ k = 4 := by omega
  rcases this with rfl | rfl | rfl | rfl | rfl
  · refine ⟨84, #[pt kb], rfl, ?_⟩
    rw [one_0 hd hc]
    exact (h_org v r kb hp hc.2 hv hz hb).mono fun e w' h => h.weaken rfl fun _ => ⟨rfl, (it_same rfl).symm⟩
  · refine ⟨86, #[pt kb], rfl, ?_⟩
    rw [one_1 hd (hj 0 (by omega)) hc]
    refine (h_space line v r kb hp hx hc.2 hv hz hb).mono fun e w' h => h.weaken ?_ fun h0 => ?_
    · split <;> rfl
    · by_cases hE : AS.nbE (r.getD 0 []) 0 16384 = 0
      · rw [if_pos hE]
        exact ⟨rfl, (it_put _ _ _ _ _).symm⟩
      · rw [if_neg hE] at h0
        exact absurd h0 hE
  · obtain ⟨k1, k3, k4, k6, rfl, b1, b3, b4, b6⟩ := h2
    refine ⟨127, #[pt k1, pt k3, pt k4, pt k6], rfl, ?_⟩
    rw [one_2 hd (hj 0 (by omega)) (hj 1 (by omega)) hc]
    have hc2 : 1 ≤ r.length := hc.2
    exact (h_data line 2 4 4 _ _ v r k1 k3 k4 k6 hp hx (by intro h; subst h; simp at hc2) hl hv b1 b3 b4 b6 (.inl ⟨rfl, rfl, rfl, rfl, rfl⟩)).mono fun e w' h => h.weaken rfl fun _ => ⟨rfl, (it_put _ _ _ _ _).symm⟩
  · obtain ⟨k1, k3, k4, k6, rfl, b1, b3, b4, b6⟩ := h3
    refine ⟨127, #[pt k1, pt k3, pt k4, pt k6], rfl, ?_⟩
    rw [one_3 hd (hj 0 (by omega)) (hj 1 (by omega)) (hj 2 (by omega)) hc]
    have hc2 : 1 ≤ r.length := hc.2
    exact (h_data line 3 1 1 _ _ v r k1 k3 k4 k6 hp hx (by intro h; subst h; simp at hc2) hl hv b1 b3 b4 b6 (.inr ⟨rfl, rfl, rfl, rfl, rfl⟩)).mono fun e w' h => h.weaken rfl fun _ => ⟨rfl, (it_put _ _ _ _ _).symm⟩
  · refine ⟨89, #[pt kb], rfl, ?_⟩
    rw [one_4 hd (hj 0 (by omega)) (hj 1 (by omega)) (hj 2 (by omega)) (hj 3 (by omega)) hc]
    refine (h_equ v r kb hp hc.2 hv hz hn hb).mono fun e w' h => h.weaken ?_ fun h0 => ?_
    · split <;> rfl
    · by_cases hE : AS.frE st.names (r.getD 0 []) = 0
      · rw [if_pos hE]
        exact ⟨rfl, (it_same rfl).symm⟩
      · rw [if_neg hE] at h0
        exact absurd h0 hE
end Go.Proofs.YtcnmnkgnaknpdaaGreatDoor
/-! WalkM -/
namespace Go.Proofs.YtcnmnkgnaknpdaaGreatDoor
open Go.RowKit Go.Maps S02 S06 S07
theorem txr_len {w : World} {v : Value} {l : List (List UInt8)} (h : TxR w v l) : ∃ a c, v = .slice a l.length c := by
  rcases h with ⟨rfl, a, c, rfl⟩ | ⟨_, g, o, c, cs, fr, rfl, _⟩
  · exact ⟨a, c, rfl⟩
  · exact ⟨_, c, rfl⟩
def HC (q : Q) (w : World) (st : AS.St) (Y : Int × AS.St) (f : Nat) (us : Array Value) : Prop := ∀ o, Calls Tryz.prog f us (w.alloc o) (HdPost q (w.alloc o) Y.1 Y.2 (itOf st Y.2))
theorem hc_end {q : Q} {w wr w2 : World} {o : Obj} {st : AS.St} {Y : Int × AS.St} {e : Ending} (hb : Below w.heap.size w wr) (hN : q.N ≤ w.heap.size) (h : HdPost q (wr.alloc o) Y.1 Y.2 (itOf st Y.2) e w2) : HdPost q w Y.1 Y.2 (itOf st Y.2) e w2 := h.from (Mv.below (hb.alloc hb.size o) hN)
set_option maxHeartbeats 4000000 in
theorem direct_any {q : Q} {w : World} {st : AS.St} (line : Nat) (D : ByteArray) (r : List (List UInt8)) (v dv : Value) (hp : S1 q w st) (hx : st.pos ≤ 16384) (hn : st.names.length ≤ 1000000) (hdv : Dirs q w dv) (hv : TxR w v r) (hz : ∀ y ∈ r, y.length ≤ 1000000) (hl : r.length ≤ 200000) (hd : Lib.hasPrefix D.data.toList [46] = true) :
    Calls Tryz.prog 95 #[dv, .string D, v] w (HdPost q w (AS.one st line (D.data.toList :: r)).1 (AS.one st line (D.data.toList :: r)).2 (itOf st (AS.one st line (D.data.toList :: r)).2)) := by
  obtain ⟨g, kb, d2, d3, rfl, hb, hg, h2, h3⟩ := hdv
  have HH := Lib.hid (fun (w' : World) (ht : Below w.heap.size w w') (k : Nat) hk hc hj => handler_any (q := q) (w := w') (st := st) line k D.data.toList r v kb d2 d3 (PS.below hp ht) hx hn (hb.keep (Tame.below ht) rfl) (h2.keep (Tame.below ht)) (h3.keep (Tame.below ht)) (hv.keep (Tame.below ht)) hz hl hd hk hc hj)
  have H5 := Lib.hid (fun h => one_5 (st := st) (line := line) (d := D.data.toList) (r := r) hd h)
  have HN := Lib.hid (PS.N hp)
  obtain ⟨k1, k3, k4, k6, rfl, _⟩ := h2
  obtain ⟨j1, j3, j4, j6, rfl, _⟩ := h3
  obtain ⟨va, vc, rfl⟩ := txr_len hv
  generalize AS.one st line (D.data.toList :: r) = Y at HH H5 ⊢
  obtain ⟨n, hnl⟩ : ∃ n, r.length = n := ⟨_, rfl⟩
  rw [hnl] at HH H5 hl ⊢
  have HG := Lib.hid hg
  clear hp hx hn hb hg hv hz hnl hd
  have hsf := fun (a : Addr) (f : Nat) (c : Array Value) (w : World) => run_store Tryz.prog w a (.func (.func f) #[] c) .plain rfl
  go_enter Tryz.func95, Tryz.ntmps95
  go_wp2
  go_loopw [12] (fun i wr => ∃ k : Nat, k ≤ 5 ∧ i = .int .i64 k ∧ Hid (Below w.heap.size w wr ∧ ∀ j, j < k → ¬ cnd D.data.toList n j)) (fun i _ => 5 - (intOf i).toNat)
  case atStart => exact ⟨0, by omega, rfl, Lib.hid ⟨Below.refl _ w, fun j hj => by omega⟩⟩
  case round =>
    obtain ⟨k, hk, rfl, hR⟩ := hrel
    have hgw : wr.heap[g]? = some (.cells (dirC kb (.func (.func 127) #[] #[pt k1, pt k3, pt k4, pt k6]) (.func (.func 127) #[] #[pt j1, pt j3, pt j4, pt j6])) 158 (0, 0)) := (hR.out.1.block g (lt_of_heap HG.out)).trans HG.out
    unfold dirC pt at hgw
    have hk5 : k = 0 ∨ k = 1 ∨ k = 2 ∨ k = 3 ∨ k = 4 ∨ k = 5 := by omega
    clear hk
    rcases hk5 with rfl | rfl | rfl | rfl | rfl | rfl
    · have c0 : wr.cell? ⟨g, 0, none⟩ = some (.string ⟨#[46, 111, 114, 103]⟩) := cell_of hgw rfl
      have c1 : wr.cell? ⟨g, 1, none⟩ = some (.int .i64 1) := cell_of hgw rfl
      have c2 : wr.cell? ⟨g, 2, none⟩ = some (.int .i64 1) := cell_of hgw rfl
      have c3 : wr.cell? ⟨g, 3, none⟩ = some (.func (.func 84) #[] #[.pointer (some ⟨kb, 0, none⟩)]) := cell_of hgw rfl
      clear hgw
      by_cases hD : D.data.toList = [46, 111, 114, 103]
      · have r1 : D.toList = [46, 111, 114, 103] := by rw [ByteArray.toList_eq]; exact hD
        have r2 : (D.toList == [46, 111, 114, 103]) = true := by simpa using r1
        have r3 : ([46, 111, 114, 103] == D.toList) = true := by rw [r1]; rfl
        have HDD := Lib.hid hD
        clear hD
        have hcs : n = 0 ∨ n = 1 ∨ 2 ≤ n := by omega
        rcases hcs with rfl | rfl | hge
        · clear hl
          go_wp2
          go_roundw
          case rel => exact ⟨1, by omega, by go_num, Lib.hid ⟨hR.out.1.alloc hR.out.1.size _, fun j hj => by
            by_cases e : j = 0
            · subst e; intro h; have := h.2; omega
            · exact hR.out.2 j (by omega)⟩⟩
          case measure => simp [intOf]
        · have HK : cnd D.data.toList 1 0 := ⟨HDD.out, rfl⟩
          have HCC := Lib.hid (show HC q wr st Y 84 #[.slice va 1 vc, .pointer (some ⟨kb, 0, none⟩)] from fun o => by
            obtain ⟨f, cap, e, h⟩ := HH.out (wr.alloc o) (hR.out.1.alloc hR.out.1.size o) 0 (by omega) HK hR.out.2
            change some (Value.func (.func 84) #[] #[.pointer (some ⟨kb, 0, none⟩)]) = some (.func (.func f) #[] cap) at e
            injection e with e
            injection e with e1 e2 e3
            injection e1 with e1
            subst e1 e3
            exact h)
          clear HK hl
          go_wp2_with (go_at_call 84; refine (HCC.out _).mono ?_; rintro e w2 h2; have HE := Lib.hid (hc_end hR.out.1 HN.out h2); obtain ⟨rv, rfl, _⟩ := h2)
          go_ret2
          exact HE.out
        · have HGE := Lib.hid hge
          have q1 : decide ((1 : Int) ≤ (n : Int)) = true := by simp; omega
          have q2 : decide ((n : Int) ≤ 1) = false := by simp; omega
          have q3 : (1 : Int) ≤ (n : Int) := by omega
          have q4 : ¬ (n : Int) ≤ 1 := by omega
          have q5 : ¬ n ≤ 1 := by omega
          have q6 : 1 ≤ n := by omega
          clear hge hl
          go_wp2
          go_roundw
          case rel => exact ⟨1, by omega, by go_num, Lib.hid ⟨hR.out.1.alloc hR.out.1.size _, fun j hj => by
            by_cases e : j = 0
            · subst e; intro h; have := h.2; have := HGE.out; omega
            · exact hR.out.2 j (by omega)⟩⟩
          case measure => simp [intOf]
      · have r1 : ¬ D.toList = [46, 111, 114, 103] := by rw [ByteArray.toList_eq]; exact hD
        have r2 : (D.toList == [46, 111, 114, 103]) = false := by simpa using r1
        have r3 : ([46, 111, 114, 103] == D.toList) = false := by rw [beq_eq_false_iff_ne]; exact fun h => r1 h.symm
        have HDD := Lib.hid hD
        clear hD hl
        go_wp2
        go_roundw
        case rel => exact ⟨1, by omega, by go_num, Lib.hid ⟨hR.out.1.alloc hR.out.1.size _, fun j hj => by
          by_cases e : j = 0
          · subst e; exact fun h => HDD.out h.1
          · exact hR.out.2 j (by omega)⟩⟩
        case measure => simp [intOf]
    · have c0 : wr.cell? ⟨g, 4, none⟩ = some (.string ⟨#[46, 115, 112, 97, 99, 101]⟩) := cell_of hgw rfl
      have c1 : wr.cell? ⟨g, 5, none⟩ = some (.int .i64 1) := cell_of hgw rfl
      have c2 : wr.cell? ⟨g, 6, none⟩ = some (.int .i64 1) := cell_of hgw rfl
      have c3 : wr.cell? ⟨g, 7, none⟩ = some (.func (.func 86) #[] #[.pointer (some ⟨kb, 0, none⟩)]) := cell_of hgw rfl
      clear hgw
      by_cases hD : D.data.toList = [46, 115, 112, 97, 99, 101]
      · have r1 : D.toList = [46, 115, 112, 97, 99, 101] := by rw [ByteArray.toList_eq]; exact hD
        have r2 : (D.toList == [46, 115, 112, 97, 99, 101]) = true := by simpa using r1
        have r3 : ([46, 115, 112, 97, 99, 101] == D.toList) = true := by rw [r1]; rfl
        have HDD := Lib.hid hD
        clear hD
        have hcs : n = 0 ∨ n = 1 ∨ 2 ≤ n := by omega
        rcases hcs with rfl | rfl | hge
        · clear hl
          go_wp2
          go_roundw
          case rel => exact ⟨2, by omega, by go_num, Lib.hid ⟨hR.out.1.alloc hR.out.1.size _, fun j hj => by
            by_cases e : j = 1
            · subst e; intro h; have := h.2; omega
            · exact hR.out.2 j (by omega)⟩⟩
          case measure => simp [intOf]
        · have HK : cnd D.data.toList 1 1 := ⟨HDD.out, rfl⟩
          have HCC := Lib.hid (show HC q wr st Y 86 #[.slice va 1 vc, .pointer (some ⟨kb, 0, none⟩)] from fun o => by
            obtain ⟨f, cap, e, h⟩ := HH.out (wr.alloc o) (hR.out.1.alloc hR.out.1.size o) 1 (by omega) HK hR.out.2
            change some (Value.func (.func 86) #[] #[.pointer (some ⟨kb, 0, none⟩)]) = some (.func (.func f) #[] cap) at e
            injection e with e
            injection e with e1 e2 e3
            injection e1 with e1
            subst e1 e3
            exact h)
          clear HK hl
          go_wp2_with (go_at_call 86; refine (HCC.out _).mono ?_; rintro e w2 h2; have HE := Lib.hid (hc_end hR.out.1 HN.out h2); obtain ⟨rv, rfl, _⟩ := h2)
          go_ret2
          exact HE.out
        · have HGE := Lib.hid hge
          have q1 : decide ((1 : Int) ≤ (n : Int)) = true := by simp; omega
          have q2 : decide ((n : Int) ≤ 1) = false := by simp; omega
          have q3 : (1 : Int) ≤ (n : Int) := by omega
          have q4 : ¬ (n : Int) ≤ 1 := by omega
          have q5 : ¬ n ≤ 1 := by omega
          have q6 : 1 ≤ n := by omega
          clear hge hl
          go_wp2
          go_roundw
          case rel => exact ⟨2, by omega, by go_num, Lib.hid ⟨hR.out.1.alloc hR.out.1.size _, fun j hj => by
            by_cases e : j = 1
            · subst e; intro h; have := h.2; have := HGE.out; omega
            · exact hR.out.2 j (by omega)⟩⟩
          case measure => simp [intOf]
      · have r1 : ¬ D.toList = [46, 115, 112, 97, 99, 101] := by rw [ByteArray.toList_eq]; exact hD
        have r2 : (D.toList == [46, 115, 112, 97, 99, 101]) = false := by simpa using r1
        have r3 : ([46, 115, 112, 97, 99, 101] == D.toList) = false := by rw [beq_eq_false_iff_ne]; exact fun h => r1 h.symm
        have HDD := Lib.hid hD
        clear hD hl
        go_wp2
        go_roundw
        case rel => exact ⟨2, by omega, by go_num, Lib.hid ⟨hR.out.1.alloc hR.out.1.size _, fun j hj => by
          by_cases e : j = 1
          · subst e; exact fun h => HDD.out h.1
          · exact hR.out.2 j (by omega)⟩⟩
        case measure => simp [intOf]
    · have c0 : wr.cell? ⟨g, 8, none⟩ = some (.string ⟨#[46, 119, 111, 114, 100]⟩) := cell_of hgw rfl
      have c1 : wr.cell? ⟨g, 9, none⟩ = some (.int .i64 1) := cell_of hgw rfl
      have c2 : wr.cell? ⟨g, 10, none⟩ = some (.int .i64 9223372036854775807) := cell_of hgw rfl
      have c3 : wr.cell? ⟨g, 11, none⟩ = some (.func (.func 127) #[] #[.pointer (some ⟨k1, 0, none⟩), .pointer (some ⟨k3, 0, none⟩), .pointer (some ⟨k4, 0, none⟩), .pointer (some ⟨k6, 0, none⟩)]) := cell_of hgw rfl
      clear hgw
      by_cases hD : D.data.toList = [46, 119, 111, 114, 100]
      · have r1 : D.toList = [46, 119, 111, 114, 100] := by rw [ByteArray.toList_eq]; exact hD
        have r2 : (D.toList == [46, 119, 111, 114, 100]) = true := by simpa using r1
        have r3 : ([46, 119, 111, 114, 100] == D.toList) = true := by rw [r1]; rfl
        have HDD := Lib.hid hD
        clear hD
        have hcs : n = 0 ∨ 1 ≤ n := by omega
        rcases hcs with rfl | hge
        · clear hl
          go_wp2
          go_roundw
          case rel => exact ⟨3, by omega, by go_num, Lib.hid ⟨hR.out.1.alloc hR.out.1.size _, fun j hj => by
            by_cases e : j = 2
            · subst e; intro h; have := h.2; omega
            · exact hR.out.2 j (by omega)⟩⟩
          case measure => simp [intOf]
        · have q1 : decide ((1 : Int) ≤ (n : Int)) = true := by simp; omega
          have q2 : decide ((n : Int) ≤ 9223372036854775807) = true := by simp; omega
          have q3 : (1 : Int) ≤ (n : Int) := by omega
          have q4 : (n : Int) ≤ 9223372036854775807 := by omega
          have q5 : n ≤ 9223372036854775807 := by omega
          have HK : cnd D.data.toList n 2 := ⟨HDD.out, hge⟩
          have HCC := Lib.hid (show HC q wr st Y 127 #[.slice va n vc, .pointer (some ⟨k1, 0, none⟩), .pointer (some ⟨k3, 0, none⟩), .pointer (some ⟨k4, 0, none⟩), .pointer (some ⟨k6, 0, none⟩)] from fun o => by
            obtain ⟨f, cap, e, h⟩ := HH.out (wr.alloc o) (hR.out.1.alloc hR.out.1.size o) 2 (by omega) HK hR.out.2
            change some (Value.func (.func 127) #[] #[.pointer (some ⟨k1, 0, none⟩), .pointer (some ⟨k3, 0, none⟩), .pointer (some ⟨k4, 0, none⟩), .pointer (some ⟨k6, 0, none⟩)]) = some (.func (.func f) #[] cap) at e
            injection e with e
            injection e with e1 e2 e3
            injection e1 with e1
            subst e1 e3
            exact h)
          clear HK hl hge
          go_wp2_with (go_at_call 127; refine (HCC.out _).mono ?_; rintro e w2 h2; have HE := Lib.hid (hc_end hR.out.1 HN.out h2); obtain ⟨rv, rfl, _⟩ := h2)
          go_ret2
          exact HE.out
      · have r1 : ¬ D.toList = [46, 119, 111, 114, 100] := by rw [ByteArray.toList_eq]; exact hD
        have r2 : (D.toList == [46, 119, 111, 114, 100]) = false := by simpa using r1
        have r3 : ([46, 119, 111, 114, 100] == D.toList) = false := by rw [beq_eq_false_iff_ne]; exact fun h => r1 h.symm
        have HDD := Lib.hid hD
        clear hD hl
        go_wp2
        go_roundw
        case rel => exact ⟨3, by omega, by go_num, Lib.hid ⟨hR.out.1.alloc hR.out.1.size _, fun j hj => by
          by_cases e : j = 2
          · subst e; exact fun h => HDD.out h.1
          · exact hR.out.2 j (by omega)⟩⟩
        case measure => simp [intOf]
    · have c0 : wr.cell? ⟨g, 12, none⟩ = some (.string ⟨#[46, 98, 121, 116, 101]⟩) := cell_of hgw rfl
      have c1 : wr.cell? ⟨g, 13, none⟩ = some (.int .i64 1) := cell_of hgw rfl
      have c2 : wr.cell? ⟨g, 14, none⟩ = some (.int .i64 9223372036854775807) := cell_of hgw rfl
      have c3 : wr.cell? ⟨g, 15, none⟩ = some (.func (.func 127) #[] #[.pointer (some ⟨j1, 0, none⟩), .pointer (some ⟨j3, 0, none⟩), .pointer (some ⟨j4, 0, none⟩), .pointer (some ⟨j6, 0, none⟩)]) := cell_of hgw rfl
      clear hgw
      by_cases hD : D.data.toList = [46, 98, 121, 116, 101]
      · have r1 : D.toList = [46, 98, 121, 116, 101] := by rw [ByteArray.toList_eq]; exact hD
        have r2 : (D.toList == [46, 98, 121, 116, 101]) = true := by simpa using r1
        have r3 : ([46, 98, 121, 116, 101] == D.toList) = true := by rw [r1]; rfl
        have HDD := Lib.hid hD
        clear hD
        have hcs : n = 0 ∨ 1 ≤ n := by omega
        rcases hcs with rfl | hge
        · clear hl
          go_wp2
          go_roundw
          case rel => exact ⟨4, by omega, by go_num, Lib.hid ⟨hR.out.1.alloc hR.out.1.size _, fun j hj => by
            by_cases e : j = 3
            · subst e; intro h; have := h.2; omega
            · exact hR.out.2 j (by omega)⟩⟩
          case measure => simp [intOf]
        · have q1 : decide ((1 : Int) ≤ (n : Int)) = true := by simp; omega
          have q2 : decide ((n : Int) ≤ 9223372036854775807) = true := by simp; omega
          have q3 : (1 : Int) ≤ (n : Int) := by omega
          have q4 : (n : Int) ≤ 9223372036854775807 := by omega
          have q5 : n ≤ 9223372036854775807 := by omega
          have HK : cnd D.data.toList n 3 := ⟨HDD.out, hge⟩
          have HCC := Lib.hid (show HC q wr st Y 127 #[.slice va n vc, .pointer (some ⟨j1, 0, none⟩), .pointer (some ⟨j3, 0, none⟩), .pointer (some ⟨j4, 0, none⟩), .pointer (some ⟨j6, 0, none⟩)] from fun o => by
            obtain ⟨f, cap, e, h⟩ := HH.out (wr.alloc o) (hR.out.1.alloc hR.out.1.size o) 3 (by omega) HK hR.out.2
            change some (Value.func (.func 127) #[] #[.pointer (some ⟨j1, 0, none⟩), .pointer (some ⟨j3, 0, none⟩), .pointer (some ⟨j4, 0, none⟩), .pointer (some ⟨j6, 0, none⟩)]) = some (.func (.func f) #[] cap) at e
            injection e with e
            injection e with e1 e2 e3
            injection e1 with e1
            subst e1 e3
            exact h)
          clear HK hl hge
          go_wp2_with (go_at_call 127; refine (HCC.out _).mono ?_; rintro e w2 h2; have HE := Lib.hid (hc_end hR.out.1 HN.out h2); obtain ⟨rv, rfl, _⟩ := h2)
          go_ret2
          exact HE.out
      · have r1 : ¬ D.toList = [46, 98, 121, 116, 101] := by rw [ByteArray.toList_eq]; exact hD
        have r2 : (D.toList == [46, 98, 121, 116, 101]) = false := by simpa using r1
        have r3 : ([46, 98, 121, 116, 101] == D.toList) = false := by rw [beq_eq_false_iff_ne]; exact fun h => r1 h.symm
        have HDD := Lib.hid hD
        clear hD hl
        go_wp2
        go_roundw
        case rel => exact ⟨4, by omega, by go_num, Lib.hid ⟨hR.out.1.alloc hR.out.1.size _, fun j hj => by
          by_cases e : j = 3
          · subst e; exact fun h => HDD.out h.1
          · exact hR.out.2 j (by omega)⟩⟩
        case measure => simp [intOf]
    · have c0 : wr.cell? ⟨g, 16, none⟩ = some (.string ⟨#[46, 101, 113, 117]⟩) := cell_of hgw rfl
      have c1 : wr.cell? ⟨g, 17, none⟩ = some (.int .i64 2) := cell_of hgw rfl
      have c2 : wr.cell? ⟨g, 18, none⟩ = some (.int .i64 2) := cell_of hgw rfl
      have c3 : wr.cell? ⟨g, 19, none⟩ = some (.func (.func 89) #[] #[.pointer (some ⟨kb, 0, none⟩)]) := cell_of hgw rfl
      clear hgw
      by_cases hD : D.data.toList = [46, 101, 113, 117]
      · have r1 : D.toList = [46, 101, 113, 117] := by rw [ByteArray.toList_eq]; exact hD
        have r2 : (D.toList == [46, 101, 113, 117]) = true := by simpa using r1
        have r3 : ([46, 101, 113, 117] == D.toList) = true := by rw [r1]; rfl
        have HDD := Lib.hid hD
        clear hD
        have hcs : n = 0 ∨ n = 1 ∨ n = 2 ∨ 3 ≤ n := by omega
        rcases hcs with rfl | rfl | rfl | hge
        · clear hl
          go_wp2
          go_roundw
          case rel => exact ⟨5, by omega, by go_num, Lib.hid ⟨hR.out.1.alloc hR.out.1.size _, fun j hj => by
            by_cases e : j = 4
            · subst e; intro h; have := h.2; omega
            · exact hR.out.2 j (by omega)⟩⟩
          case measure => simp [intOf]
        · clear hl
          go_wp2
          go_roundw
          case rel => exact ⟨5, by omega, by go_num, Lib.hid ⟨hR.out.1.alloc hR.out.1.size _, fun j hj => by
            by_cases e : j = 4
            · subst e; intro h; have := h.2; omega
            · exact hR.out.2 j (by omega)⟩⟩
          case measure => simp [intOf]
        · have HK : cnd D.data.toList 2 4 := ⟨HDD.out, rfl⟩
          have HCC := Lib.hid (show HC q wr st Y 89 #[.slice va 2 vc, .pointer (some ⟨kb, 0, none⟩)] from fun o => by
            obtain ⟨f, cap, e, h⟩ := HH.out (wr.alloc o) (hR.out.1.alloc hR.out.1.size o) 4 (by omega) HK hR.out.2
            change some (Value.func (.func 89) #[] #[.pointer (some ⟨kb, 0, none⟩)]) = some (.func (.func f) #[] cap) at e
            injection e with e
            injection e with e1 e2 e3
            injection e1 with e1
            subst e1 e3
            exact h)
          clear HK hl
          go_wp2_with (go_at_call 89; refine (HCC.out _).mono ?_; rintro e w2 h2; have HE := Lib.hid (hc_end hR.out.1 HN.out h2); obtain ⟨rv, rfl, _⟩ := h2)
          go_ret2
          exact HE.out
        · have HGE := Lib.hid hge
          have q1 : decide ((2 : Int) ≤ (n : Int)) = true := by simp; omega
          have q2 : decide ((n : Int) ≤ 2) = false := by simp; omega
          have q3 : (2 : Int) ≤ (n : Int) := by omega
          have q4 : ¬ (n : Int) ≤ 2 := by omega
          have q5 : ¬ n ≤ 2 := by omega
          have q6 : 2 ≤ n := by omega
          clear hge hl
          go_wp2
          go_roundw
          case rel => exact ⟨5, by omega, by go_num, Lib.hid ⟨hR.out.1.alloc hR.out.1.size _, fun j hj => by
            by_cases e : j = 4
            · subst e; intro h; have := h.2; have := HGE.out; omega
            · exact hR.out.2 j (by omega)⟩⟩
          case measure => simp [intOf]
      · have r1 : ¬ D.toList = [46, 101, 113, 117] := by rw [ByteArray.toList_eq]; exact hD
        have r2 : (D.toList == [46, 101, 113, 117]) = false := by simpa using r1
        have r3 : ([46, 101, 113, 117] == D.toList) = false := by rw [beq_eq_false_iff_ne]; exact fun h => r1 h.symm
        have HDD := Lib.hid hD
        clear hD hl
        go_wp2
        go_roundw
        case rel => exact ⟨5, by omega, by go_num, Lib.hid ⟨hR.out.1.alloc hR.out.1.size _, fun j hj => by
          by_cases e : j = 4
          · subst e; exact fun h => HDD.out h.1
          · exact hR.out.2 j (by omega)⟩⟩
        case measure => simp [intOf]
    · have HY := Lib.hid (H5.out hR.out.2)
      clear hgw
      go_wp2
      go_ret2
      rw [HY.out]
      exact ⟨_, rfl, Mv.below hR.out.1 HN.out, fun h => by cases h⟩
end Go.Proofs.YtcnmnkgnaknpdaaGreatDoor
