/-
  Arguments that are lists of instructions: how what was handed in lies in memory.
  What the law Insts does, its parts: the words of the good instructions; a program's bytes, one by one.
  The law Insts returns true at every list of instructions and leaves all that was in memory as it was, where the tables are as their texts lay them.
-/
import Derived.Test.YtcnmnkgnaknpdaaGreatDoorArg2
import Derived.Test.YtcnmnkgnaknpdaaGreatDoorGp
import Derived.Test.YtcnmnkgnaknpdaaGreatDoorGw
import Derived.Maps.AppendAt
import Derived.Laws.OwnMore
import Derived.OwnWalk
import Derived.Deep.QuietTactic
import Derived.BigQuiet

/-! ArgI -/
namespace Go.Proofs.YtcnmnkgnaknpdaaGreatDoor
open Go.ChangeShapes Go.WideShapes Go.RowKit Go.Joins Go.Deep
/-- A slice of instructions. -/
def InR (w : World) (v : Value) (l : List AS.In) : Prop :=
  (l = [] ∧ ∃ a c, v = .slice a 0 c) ∨ (l ≠ [] ∧ ∃ g o c, v = .slice (some ⟨g, o, none⟩) l.length c ∧ ∀ j p, l[j]? = some p → w.cell? ⟨g, o + j * 5, none⟩ = some (.int .i64 p.1) ∧ w.cell? ⟨g, o + j * 5 + 1, none⟩ = some (.int .i64 p.2.1) ∧ w.cell? ⟨g, o + j * 5 + 2, none⟩ = some (.int .i64 p.2.2.1) ∧ w.cell? ⟨g, o + j * 5 + 3, none⟩ = some (.int .i64 p.2.2.2.1) ∧ w.cell? ⟨g, o + j * 5 + 4, none⟩ = some (.int .i64 p.2.2.2.2))
theorem five_of : ∀ {l : List Value}, l.length = 5 → ∃ a b c d e, l = [a, b, c, d, e]
  | [a, b, c, d, e], _ => ⟨a, b, c, d, e, rfl⟩
section
variable {H : Type} {enc : TypeId × Value → H} {W : World} {fuel : Nat} {v : Value} {x : DataW H × List MemPlace}
theorem one_int {n : Nat} {c : Value} {y : Option (DataW H × List MemPlace)} {z : DataW H × List MemPlace} (h : DataW.trod enc Tryz.prog W 0 (fun _ => true) true n 3 [c] = y) (hy : y = some z) : ∃ a : Int, c = .int .i64 a := by
  rw [hy] at h
  obtain ⟨a, e0, -, -⟩ := DataW.trod_int Tryz.underlying3 h
  simp at e0
  exact ⟨a, e0⟩
theorem read_in (h : DataW.trod enc Tryz.prog W 0 (fun _ => true) true fuel 40 [v] = some x) : ∃ l, InR W v l := by
  rcases DataW.trod_slice Tryz.underlying40 h with ⟨hcs, _⟩ | ⟨a, len, cap, elems, rest, n, _, hcs, _, hb, hl, hm, hlen, hel, _, _⟩
  · injection hcs with hcs
    exact ⟨[], .inl ⟨rfl, _, _, hcs⟩⟩
  · injection hcs with hcs
    subst hcs
    have hce : Tryz.prog.cellsOf 45 = 5 := by kernel_rfl
    rw [hce] at hel
    have key : ∀ i, i < len → ∃ p : AS.In, W.cell? (a.add (i * 5)) = some (.int .i64 p.1) ∧ W.cell? ((a.add (i * 5)).add 1) = some (.int .i64 p.2.1) ∧ W.cell? ((a.add (i * 5)).add 2) = some (.int .i64 p.2.2.1) ∧ W.cell? ((a.add (i * 5)).add 3) = some (.int .i64 p.2.2.2.1) ∧ W.cell? ((a.add (i * 5)).add 4) = some (.int .i64 p.2.2.2.2) := by
      intro i hi
      have h1 := hel i hi
      rw [List.getElem?_eq_getElem (by omega)] at h1
      obtain ⟨cs, h2, h3⟩ := Option.bind_eq_some_iff.1 h1
      obtain ⟨-, h4, h5⟩ := World.cells?_some h2
      obtain ⟨xs, n', -, -, -, hxl, hg⟩ := DataW.trod_struct Tryz.underlying45 h3
      obtain ⟨c0, c1, c2, c3, c4, rfl⟩ := five_of h4
      have g0 : DataW.trod enc Tryz.prog W 0 (fun _ => true) true n' 3 ((([c0, c1, c2, c3, c4] : List Value).drop 0).take (Tryz.prog.cellsOf 3)) = xs[0]? := hg 0 _ rfl
      have g1 : DataW.trod enc Tryz.prog W 0 (fun _ => true) true n' 3 ((([c0, c1, c2, c3, c4] : List Value).drop 1).take (Tryz.prog.cellsOf 3)) = xs[1]? := hg 1 _ rfl
      have g2 : DataW.trod enc Tryz.prog W 0 (fun _ => true) true n' 3 ((([c0, c1, c2, c3, c4] : List Value).drop 2).take (Tryz.prog.cellsOf 3)) = xs[2]? := hg 2 _ rfl
      have g3 : DataW.trod enc Tryz.prog W 0 (fun _ => true) true n' 3 ((([c0, c1, c2, c3, c4] : List Value).drop 3).take (Tryz.prog.cellsOf 3)) = xs[3]? := hg 3 _ rfl
      have g4 : DataW.trod enc Tryz.prog W 0 (fun _ => true) true n' 3 ((([c0, c1, c2, c3, c4] : List Value).drop 4).take (Tryz.prog.cellsOf 3)) = xs[4]? := hg 4 _ rfl
      have hxl' : xs.length = 5 := hxl
      rw [show Tryz.prog.cellsOf 3 = 1 by kernel_rfl] at g0 g1 g2 g3 g4
      obtain ⟨z0, rfl⟩ := one_int g0 (List.getElem?_eq_getElem (by omega))
      obtain ⟨z1, rfl⟩ := one_int g1 (List.getElem?_eq_getElem (by omega))
      obtain ⟨z2, rfl⟩ := one_int g2 (List.getElem?_eq_getElem (by omega))
      obtain ⟨z3, rfl⟩ := one_int g3 (List.getElem?_eq_getElem (by omega))
      obtain ⟨z4, rfl⟩ := one_int g4 (List.getElem?_eq_getElem (by omega))
      have h6 := h5 0 (by omega)
      rw [show (a.add (i * 5)).add 0 = a.add (i * 5) by simp [Addr.add]] at h6
      exact ⟨(z0, z1, z2, z3, z4), h6, h5 1 (by omega), h5 2 (by omega), h5 3 (by omega), h5 4 (by omega)⟩
    obtain ⟨l, hll, hq⟩ := list_of len key
    refine ⟨l, ?_⟩
    by_cases h0 : l = []
    · subst h0
      simp at hll
      subst hll
      exact .inl ⟨rfl, _, _, rfl⟩
    · have h1 : 0 < len := (Nat.eq_zero_or_pos len).elim (fun h => absurd (List.eq_nil_of_length_eq_zero (hll.trans h)) h0) id
      obtain ⟨b, off, spot⟩ := a
      have hs : spot = none := by
        obtain ⟨p, hp, -⟩ := key 0 h1
        simpa [Addr.add] using World.cell?_spot hp
      subst hs
      refine .inr ⟨h0, b, off, cap, by rw [hll], fun j p hj => ?_⟩
      obtain ⟨q0, q1, q2, q3, q4⟩ := hq j p hj
      simp only [Lib.add_plain] at q0 q1 q2 q3 q4
      exact ⟨q0, q1, q2, q3, q4⟩
end
set_option maxRecDepth 100000 in
/-- A list of instructions that was handed in. -/
theorem arg_insts {H : Type} {enc : TypeId × Value → H} {W : World} {b0 : Nat} {r : Reach} {v : Value} {d : DataW H} {p : List MemPlace} (hv : Value.okWide Tryz.prog W r b0 40 v) (h : DataW.Trod enc Tryz.prog W 0 (fun _ => true) true 40 v d p) : ∃ l, InR W v l := by
  obtain ⟨a, len, cap, rfl⟩ := okWide_slice Tryz.underlying40 hv
  obtain ⟨fuel, hf⟩ := h
  exact read_in hf
end Go.Proofs.YtcnmnkgnaknpdaaGreatDoor
/-! InsA -/
namespace Go.Proofs.YtcnmnkgnaknpdaaGreatDoor
open Go.RowKit Go.Maps S01 S02 S06 S07
theorem word_info : (Tryz.prog.info? 23).map (fun i => (i.zero, i.size, i.bytes)) = some (some (.int .u32 0), 1, 4) := by kernel_rfl
theorem one_word (n : Int) : ∀ u ∈ [Value.int .u32 n], u.oneCell' = true := by
  intro u hu; simp at hu; subst hu; rfl
namespace AS
/-- Those that can be encoded. -/
def okI (l : List In) : List In := l.filter fun i => rcI i == 0
theorem okI_ok {l : List In} : ∀ i ∈ okI l, rcI i = 0 := fun i hi => by
  have := (List.mem_filter.1 hi).2
  simpa using this
theorem okI_len (l : List In) : (okI l).length ≤ l.length := List.length_filter_le _ _
theorem okI_good {l : List In} {i : In} (h : rcI i = 0) : okI (l ++ [i]) = okI l ++ [i] := by simp [okI, h]
theorem okI_bad {l : List In} {i : In} (h : ¬ rcI i = 0) : okI (l ++ [i]) = okI l := by simp [okI, h]
theorem le_at (v j : Nat) (h : j < 4) : (le v 4).getD j 0 = byt v j := by
  unfold le
  rw [List.getD_eq_getElem?_getD, List.getElem?_map, List.getElem?_range h]
  rfl
theorem bytI_at : ∀ (l : List In) (k : Nat) (p : In), l[k]? = some p → ∀ j, j < 4 → (bytI l).getD (4 * k + j) 0 = byt (ecI p) j
  | [], _, _, h, _, _ => by simp at h
  | i :: r, 0, p, h, j, hj => by
    simp at h
    subst h
    rw [bytI, List.flatMap_cons, List.getD_eq_getElem?_getD, List.getElem?_append_left (by simp [le]; omega), ← List.getD_eq_getElem?_getD, Nat.mul_zero, Nat.zero_add]
    exact le_at _ _ hj
  | i :: r, k + 1, p, h, j, hj => by
    have ih := bytI_at r k p (by simpa using h) j hj
    have hl : (le (ecI i) 4).length = 4 := by simp [le]
    rw [bytI, List.flatMap_cons, List.getD_eq_getElem?_getD, List.getElem?_append_right (by rw [hl]; omega), hl, show 4 * (k + 1) + j - 4 = 4 * k + j by omega, ← List.getD_eq_getElem?_getD]
    exact ih
theorem byt_val (v j : Nat) : ((byt v j).toNat : Int) = (v : Int) / 256 ^ j % 256 := by
  unfold byt
  rw [UInt8.toNat_ofNat']
  rw [Nat.mod_eq_of_lt (Nat.mod_lt _ (by decide))]
  simp
theorem ec_nat (p : In) : IM.ec p.1 p.2.1 p.2.2.1 p.2.2.2.1 p.2.2.2.2 = (ecI p : Int) ∧ ecI p < 4294967296 := by
  have h : 0 ≤ IM.ec p.1 p.2.1 p.2.2.1 p.2.2.2.1 p.2.2.2.2 ∧ IM.ec p.1 p.2.1 p.2.2.1 p.2.2.2.1 p.2.2.2.2 < 4294967296 := by
    unfold IM.ec
    split
    · rename_i h
      exact (IM.back h).1
    · omega
  unfold ecI
  omega
end AS
theorem encI_any (p : AS.In) (w : World) : Calls Tryz.prog 17 #[.agg #[.int .i64 p.1, .int .i64 p.2.1, .int .i64 p.2.2.1, .int .i64 p.2.2.2.1, .int .i64 p.2.2.2.2]] w fun e w' => e = .returned (.tuple #[.int .u32 (AS.ecI p : Int), .int .i64 (AS.rcI p)]) ∧ Below w.heap.size w w' := by
  have h := S06.enc_any p.1 p.2.1 p.2.2.1 p.2.2.2.1 p.2.2.2.2 w
  rw [(AS.ec_nat p).1] at h
  exact h
theorem printI_any (p : AS.In) (w : World) (ht : Tb w) : Calls Tryz.prog 18 #[.agg #[.int .i64 p.1, .int .i64 p.2.1, .int .i64 p.2.2.1, .int .i64 p.2.2.2.1, .int .i64 p.2.2.2.2]] w fun e w' => e = .returned (.string ⟨(AS.prI p).toArray⟩) ∧ Below w.heap.size w w' :=
  S07.print_any p.1 p.2.1 p.2.2.1 p.2.2.2.1 p.2.2.2.2 w ht
theorem inr_form {w : World} {v : Value} {l : List AS.In} (h : InR w v l) : ∃ a c, v = .slice a l.length c := by
  rcases h with ⟨rfl, a, c, rfl⟩ | ⟨_, g, o, c, rfl, _⟩
  · exact ⟨a, c, rfl⟩
  · exact ⟨_, c, rfl⟩
def uv (p : AS.In) : Value := .int .u32 (AS.ecI p : Int)
/-- A row of words that the call owns; nothing below is changed. -/
def WRow (w wr : World) (v : Value) (acc : List AS.In) : Prop := wr.ownsRow w.heap.size 23 1 v acc.length (acc.map uv) ∧ Below w.heap.size w wr
theorem WRow.start (w : World) : WRow w (w.alloc (.cells #[] 23)) (.slice (some ⟨w.heap.size, 0, none⟩) 0 0) [] :=
  ⟨World.ownsRow_lit w #[] 0 (Nat.le_refl _) (by unfold maxLen; omega) rfl, (Below.refl _ w).alloc (Nat.le_refl _) _⟩
theorem WRow.app {w wn w1 : World} {v v' x : Value} {acc : List AS.In} {y : AS.In} {o : Obj} (h : WRow w wn v acc) (hx : x = uv y)
    (hown : w1.ownsRow w.heap.size 23 1 v' (acc.length + 1) (acc.map uv ++ [x])) (hg : (wn.alloc o).grownBy w1 v.ownBlock) : WRow w w1 v' (acc ++ [y]) := by
  subst hx
  refine ⟨by rw [List.length_append, List.map_append]; exact hown, ?_⟩
  refine (h.2.alloc h.2.size o).grown hg (by have := h.2.size; simp; omega) fun k hk => ?_
  rcases h.1.2 with ⟨rfl, _⟩ | ⟨g, cap, cur, rfl, hb, _⟩
  · simp [Value.ownBlock] at hk
  · simp only [Value.ownBlock, Option.some.injEq] at hk
    omega
theorem WRow.below {w wr w2 : World} {v : Value} {acc : List AS.In} (h : WRow w wr v acc) (hb : Below wr.heap.size wr w2) : WRow w w2 v acc := by
  refine ⟨⟨h.1.1, ?_⟩, h.2.trans (hb.mono h.2.size)⟩
  rcases h.1.2 with h0 | ⟨g, cap, cur, h0, h1, h2, h3⟩
  · exact .inl h0
  · exact .inr ⟨g, cap, cur, h0, h1, (hb.block g (lt_of_heap h2)).trans h2, h3⟩
theorem wrow_form {w wr : World} {v : Value} {acc : List AS.In} (h : WRow w wr v acc) : ∃ a c, v = .slice a acc.length c := by
  rcases h.1.2 with ⟨h0, h1⟩ | ⟨g, cap, cur, h0, _⟩
  · exact ⟨none, 0, by rw [h0, h1]⟩
  · exact ⟨_, _, h0⟩
theorem wrow_open {w wr : World} {a : Option Addr} {n c : Nat} {acc : List AS.In} (h : WRow w wr (.slice a n c) acc) (h0 : acc ≠ []) : ∃ g, a = some ⟨g, 0, none⟩ ∧ ∀ (i : Nat) (p : AS.In), acc[i]? = some p → wr.cell? ⟨g, i, none⟩ = some (.int .u32 (AS.ecI p : Int)) := by
  have h1 := h.1
  rcases h1.2 with ⟨_, h2⟩ | ⟨g, cap, cur, h2, hb, hg, _⟩
  · exact absurd (List.eq_nil_of_length_eq_zero h2) h0
  · injection h2 with e1 e2 e3
    subst e1 e2 e3
    refine ⟨g, rfl, fun i p hi => ?_⟩
    have hil : i < acc.length := (List.getElem?_eq_some_iff.1 hi).1
    rw [h1.cellAt i (by omega), List.getElem?_map, hi]
    rfl
end Go.Proofs.YtcnmnkgnaknpdaaGreatDoor
/-! InsB -/
namespace Go.Proofs.YtcnmnkgnaknpdaaGreatDoor
open Go.RowKit Go.Maps S01 S02 S06 S07
/-- One segment: where its number, its row and its bytes lie. -/
theorem one_seg {w : World} {sv : Value} {bs : List UInt8} (h : SgR w sv [(0, bs)]) (h0 : bs ≠ []) : ∃ g o c g2 o2 c2, sv = .slice (some ⟨g, o, none⟩) 1 c ∧ w.cell? ⟨g, o, none⟩ = some (.int .u32 0) ∧ w.cell? ⟨g, o + 1, none⟩ = some (.slice (some ⟨g2, o2, none⟩) bs.length c2) ∧ ∀ i, i < bs.length → w.cell? ⟨g2, o2 + i, none⟩ = some (.int .u8 (bs.getD i 0).toNat) := by
  rcases h with ⟨h, -⟩ | ⟨-, g, o, c, h, h3⟩
  · cases h
  · obtain ⟨q1, d, q2, q3⟩ := h3 0 (0, bs) rfl
    rcases q3 with ⟨h, -⟩ | ⟨-, g2, o2, c2, e, -, -, k3⟩
    · exact absurd h h0
    · rw [e] at q2
      exact ⟨g, o, c, g2, o2, c2, h, q1, q2, k3⟩
set_option maxRecDepth 20000 in
set_option maxHeartbeats 8000000 in
theorem insts_walk {w : World} {v : Value} {l : List AS.In} (hv : InR w v l) (ht : Tw w) :
    Calls Tryz.prog 5 #[v] w fun e w' => e = .returned (.bool true) ∧ Below w.heap.size w w' := by
  have HAW := Lib.hid (fun (W : World) (hb : Below w.heap.size w W) => ht.wake hb)
  obtain ⟨sa, sc, rfl⟩ := inr_form hv
  obtain ⟨n, hn⟩ : ∃ n, l.length = n := ⟨_, rfl⟩
  rw [hn] at hv ⊢
  by_cases h60 : (60 : Int) < n
  · have HB0 := Lib.hid (Below.refl w.heap.size w)
    clear hv ht hn
    go_enter Tryz.func5, Tryz.ntmps5
    go_wp2_with (go_at_call 8; refine (HAW.out _ HB0.out).mono ?_; rintro e w2 ⟨rfl, hb2⟩; have HB2 := Lib.hid hb2; clear hb2)
    go_ret
    exact ⟨rfl, HB2.out⟩
  · obtain ⟨i0, HI⟩ := info_parts word_info
    have HI := Lib.hid HI
    have HPR := Lib.hid (fun (p : AS.In) (W : World) (hb : Below w.heap.size w W) => printI_any p W (ht.on hb).1)
    have HAs := Lib.hid (fun (s : ByteArray) (W : World) (hb : Below w.heap.size w W) (h : s.size ≤ 9223372036854775807) => asmAll_any s W h (ht.on hb).1 (ht.on hb).five)
    have HG := Lib.hid hv
    have HN := Lib.hid hn
    have hn60 : (n : Int) ≤ 60 := by omega
    clear hv ht hn h60
    go_enter Tryz.func5, Tryz.ntmps5
    go_wp2
    go_loopw [3, 4, 5] (fun x u i wr => ∃ (k : Nat) (X : ByteArray), k ≤ n ∧ i = .int .i64 k ∧ x = .string X ∧ Hid (X.data.toList = AS.srcI (AS.okI (l.take k))) ∧ Hid (WRow w wr u (AS.okI (l.take k)))) (fun _ _ i _ => n - (intOf i).toNat)
    case atStart => exact ⟨0, ⟨#[]⟩, by omega, rfl, rfl, Lib.hid rfl, Lib.hid (WRow.start w)⟩
    case round =>
      obtain ⟨k, X, hk, rfl, rfl, hX, hR⟩ := hrel
      have HAL := Lib.hid (show (AS.okI (l.take k)).length ≤ k from Nat.le_trans (AS.okI_len _) (by rw [List.length_take]; omega))
      have hXS : (X.size : Int) ≤ 6200 := by
        have h1 := NM.len_eq X
        rw [hX.out] at h1
        have h2 := AS.srcI_len (AS.okI (l.take k))
        have := HAL.out
        omega
      by_cases hlt : (k : Int) < n
      · have hkl : k < l.length := by rw [HN.out]; omega
        obtain ⟨p, hp⟩ : ∃ p, l[k]? = some p := ⟨_, List.getElem?_eq_getElem hkl⟩
        have HTK := Lib.hid (show l.take (k + 1) = l.take k ++ [p] by rw [List.take_succ_eq_append_getElem hkl, List.getElem_eq_iff hkl |>.2 hp])
        have H17 := Lib.hid (fun W => encI_any p W)
        have H18 := Lib.hid (fun W hb => HPR.out p W hb)
        obtain ⟨g, o, rfl, HC⟩ : ∃ g o, sa = some ⟨g, o, none⟩ ∧ Hid (∀ W, Below w.heap.size w W → W.cell? ⟨g, o + k * 5, none⟩ = some (.int .i64 p.1) ∧ W.cell? ⟨g, o + k * 5 + 1, none⟩ = some (.int .i64 p.2.1) ∧ W.cell? ⟨g, o + k * 5 + 2, none⟩ = some (.int .i64 p.2.2.1) ∧ W.cell? ⟨g, o + k * 5 + 3, none⟩ = some (.int .i64 p.2.2.2.1) ∧ W.cell? ⟨g, o + k * 5 + 4, none⟩ = some (.int .i64 p.2.2.2.2)) := by
          rcases HG.out with ⟨h, -⟩ | ⟨-, g, o, c, h, h3⟩
          · rw [h] at hkl; simp at hkl
          · injection h with h1 h2 h4
            obtain ⟨q0, q1, q2, q3, q4⟩ := h3 k _ hp
            exact ⟨g, o, h1, Lib.hid fun W hb => ⟨cell_below hb q0, cell_below hb q1, cell_below hb q2, cell_below hb q3, cell_below hb q4⟩⟩
        obtain ⟨T, hT, hT1, hT2⟩ := bt_of (AS.prI p)
        rw [hT] at H18
        have hTs : (T.size : Int) ≤ 100 := by
          have := TX.pr_len p.1 p.2.1 p.2.2.1 p.2.2.2.1 p.2.2.2.2
          have e : (AS.prI p).length ≤ 100 := this
          omega
        have HT1 := Lib.hid hT1
        obtain ⟨E, hE⟩ : ∃ E, AS.ecI p = E := ⟨_, rfl⟩
        have HE := Lib.hid (show (E : Int) < 4294967296 by have := (AS.ec_nat p).2; omega)
        have HEE := Lib.hid hE
        rw [hE] at H17
        obtain ⟨R, hRc⟩ : ∃ R, AS.rcI p = R := ⟨_, rfl⟩
        have HRC := Lib.hid hRc
        rw [hRc] at H17
        obtain ⟨a0, ha0⟩ : ∃ a, p.1 = a := ⟨_, rfl⟩
        obtain ⟨a1, ha1⟩ : ∃ a, p.2.1 = a := ⟨_, rfl⟩
        obtain ⟨a2, ha2⟩ : ∃ a, p.2.2.1 = a := ⟨_, rfl⟩
        obtain ⟨a3, ha3⟩ : ∃ a, p.2.2.2.1 = a := ⟨_, rfl⟩
        obtain ⟨a4, ha4⟩ : ∃ a, p.2.2.2.2 = a := ⟨_, rfl⟩
        rw [ha0, ha1, ha2, ha3, ha4] at HC H17 H18
        obtain ⟨z0, z1, z2, z3, z4⟩ := HC.out _ hR.out.2
        clear ha0 ha1 ha2 ha3 ha4 hT hT1 hT2 hE hRc hp hkl
        by_cases hr0 : R = 0
        · subst hr0
          have HX2 := Lib.hid (show (X ++ ⟨#[9]⟩ ++ T ++ ⟨#[10]⟩).data.toList = AS.srcI (AS.okI (l.take (k + 1))) by
            have h := NM.data_app (X ++ ⟨#[9]⟩ ++ T) ⟨#[10]⟩
            rw [h, NM.data_app, NM.data_app, hX.out, HT1.out, HTK.out, AS.okI_good HRC.out, AS.srcI_snoc]
            simp)
          have hacc := HAL.out
          go_wp2_with (first
            | (go_at_call 17; refine (H17.out _).mono ?_; rintro e w1 ⟨rfl, hb1⟩; have HR1 := Lib.hid (hR.out.below hb1); clear hb1 z0 z1 z2 z3 z4)
            | (at_builtin; refine wpList_append_own _ rfl _ _ 41 rfl w.heap.size 23 i0 (.int .u32 0) 1 4 Tryz.underlying41 HI.out.1 HI.out.2.1 HI.out.2.2.1 HI.out.2.2.2 rfl (by decide) _ _ _ rfl (HR1.out.1.alloc _) ⟨_, 0, none⟩ 1 1 [.int .u32 E] rfl rfl (S07.new_cell _ _ _) (one_word _) (by unfold maxLen; omega) (by omega) (by have := HR1.out.2.size; simp; omega) ?_))
          intro v' w2 hown hgrow _
          have HR2 := Lib.hid (HR1.out.app (show Value.int .u32 (E : Int) = uv p by unfold uv; rw [HEE.out]) hown hgrow)
          rw [← AS.okI_good HRC.out, ← HTK.out] at HR2
          clear hown hgrow
          obtain ⟨z0, z1, z2, z3, z4⟩ := HC.out _ HR2.out.2
          go_wp2_with (go_at_call 18; refine (H18.out _ HR2.out.2).mono ?_; rintro e w3 ⟨rfl, hb3⟩; have HR3 := Lib.hid (HR2.out.below hb3); clear hb3 z0 z1 z2 z3 z4)
          go_roundw
          case rel => exact ⟨k + 1, _, by omega, by go_num, rfl, HX2, HR3⟩
          case measure => simp [intOf]; omega
        · have hX2 := Lib.hid (show X.data.toList = AS.srcI (AS.okI (l.take (k + 1))) by rw [hX.out, HTK.out, AS.okI_bad (by rw [HRC.out]; exact hr0)])
          have HOK := Lib.hid (show AS.okI (l.take (k + 1)) = AS.okI (l.take k) by rw [HTK.out, AS.okI_bad (by rw [HRC.out]; exact hr0)])
          have hrb : (R == 0) = false := by simp [hr0]
          clear hr0
          go_wp2_with (go_at_call 17; refine (H17.out _).mono ?_; rintro e w1 ⟨rfl, hb1⟩; have HR1 := Lib.hid (hR.out.below hb1); clear hb1 z0 z1 z2 z3 z4)
          go_roundw
          case rel => exact ⟨k + 1, X, by omega, by go_num, rfl, hX2, Lib.hid (by rw [HOK.out]; exact HR1.out)⟩
          case measure => simp [intOf]; omega
      · obtain rfl : k = n := by omega
        have HFull := Lib.hid (show l.take k = l by rw [← HN.out, List.take_length])
        rw [HFull.out] at hX hR HAL
        obtain ⟨L, hL⟩ : ∃ L, AS.okI l = L := ⟨_, rfl⟩
        rw [hL] at hX hR HAL
        have HLO := Lib.hid (show ∀ i ∈ L, AS.rcI i = 0 from hL ▸ AS.okI_ok)
        have HA := Lib.hid (HAs.out X wr hR.out.2 (by omega))
        rw [hX.out, AS.asm_ins HLO.out (by have := HAL.out; omega)] at HA
        obtain ⟨wa, wc, rfl⟩ := wrow_form hR.out
        obtain ⟨m, hm⟩ : ∃ m, L.length = m := ⟨_, rfl⟩
        have HM := Lib.hid hm
        have hm60 : (m : Int) ≤ 60 := by have := HAL.out; omega
        rw [hm] at hR ⊢
        clear hlt hX hL hm HAL HG HFull HPR HAs
        by_cases h0 : L = []
        · subst h0
          obtain rfl : m = 0 := HM.out.symm
          rw [if_pos rfl] at HA
          go_upto_region 13 with (go_at_call 9; refine HA.out.mono ?_; rintro e w5 ⟨sv5, nv5, rfl, hb5, hs5, hn5⟩; have HB5 := Lib.hid (hR.out.2.trans (hb5.mono hR.out.2.size)); obtain ⟨sa5, sc5, rfl⟩ := sv_form hs5; obtain ⟨na5, nc5, rfl⟩ := nv_form hn5; clear hb5 hs5 hn5)
          obtain ⟨W6, hW6⟩ : ∃ W6, w5.alloc (.cells #[.int .u32 0, .slice sa5 0 sc5] 26) = W6 := ⟨_, rfl⟩
          obtain ⟨B5, hB5⟩ : ∃ B5, w5.heap.size = B5 := ⟨_, rfl⟩
          have hO5 : W6.heap[B5]? = some (.cells #[.int .u32 0, .slice sa5 0 sc5] 26 (0, 0)) := hB5 ▸ hW6 ▸ heap_alloc_new w5 _
          have HB6 := Lib.hid (HB5.out.trans ((show Below w5.heap.size w5 W6 from hW6 ▸ (Below.refl _ w5).alloc (Nat.le_refl _) _).mono HB5.out.size))
          rw [hW6, hB5]
          have d0 := cell_of (o := 0) hO5 rfl
          have d1 := cell_of (o := 1) hO5 rfl
          clear hW6 hB5 hO5
          go_wp2_with (go_at_call 8; refine (HAW.out _ HB6.out).mono ?_; rintro e w9 ⟨rfl, hb9⟩; have HB9 := Lib.hid (HB6.out.trans (hb9.mono HB6.out.size)); clear hb9)
          go_ret
          exact ⟨rfl, HB9.out⟩
        · have HL0 := Lib.hid h0
          have hm0 : (m : Int) > 0 := by have h1 := List.length_pos_iff.2 h0; have h2 := HM.out; omega
          have hmb : ((m : Int) == 0) = false := by simp; omega
          rw [if_neg h0] at HA
          have HBL := Lib.hid (show (AS.bytI L).length = 4 * m by rw [AS.bytI_len, HM.out])
          have HB0 := Lib.hid (show AS.bytI L ≠ [] from fun e => by have := HBL.out; rw [e] at this; simp at this; omega)
          clear h0
          go_upto_region 13 with (go_at_call 9; refine HA.out.mono ?_; rintro e w5 ⟨sv5, nv5, rfl, hb5, hs5, hn5⟩; have HR5 := Lib.hid (hR.out.below hb5); obtain ⟨na5, nc5, rfl⟩ := nv_form hn5; obtain ⟨g5, o5, c5, g6, o6, c6, rfl, s1, s2, hs⟩ := one_seg hs5 HB0.out; have HS := Lib.hid hs; clear hb5 hs5 hn5 hs)
          obtain ⟨W6, hW6⟩ : ∃ W6, w5.alloc (.cells #[.int .u32 0, .slice (some ⟨g5, o5, none⟩) 1 c5] 26) = W6 := ⟨_, rfl⟩
          obtain ⟨B5, hB5⟩ : ∃ B5, w5.heap.size = B5 := ⟨_, rfl⟩
          have hO5 : W6.heap[B5]? = some (.cells #[.int .u32 0, .slice (some ⟨g5, o5, none⟩) 1 c5] 26 (0, 0)) := hB5 ▸ hW6 ▸ heap_alloc_new w5 _
          have hal5 : Below w5.heap.size w5 W6 := hW6 ▸ (Below.refl _ w5).alloc (Nat.le_refl _) _
          have HR6 := Lib.hid (HR5.out.below hal5)
          rw [HBL.out] at s2
          obtain ⟨M4, hM4⟩ : ∃ M4, 4 * m = M4 := ⟨_, rfl⟩
          rw [hM4] at s2
          have hM5 : (M4 : Int) = 4 * m := by omega
          have HM4 := Lib.hid hM4
          clear hM4
          replace s1 := cell_below hal5 s1
          replace s2 := cell_below hal5 s2
          have HS6 := Lib.hid (fun i (hi : i < 4 * m) => cell_below hal5 (HS.out i (by rw [HBL.out]; exact hi)))
          rw [hW6, hB5]
          have d0 := cell_of (o := 0) hO5 rfl
          have d1 := cell_of (o := 1) hO5 rfl
          obtain ⟨gw, rfl, hwd⟩ := wrow_open HR6.out HL0.out
          have HWD := Lib.hid hwd
          clear hW6 hB5 hO5 hal5 HS HR5 hwd HA hR
          go_wp2
          go_loopw [12] (fun i wx => ∃ a : Nat, a ≤ m ∧ i = .int .i64 a ∧ Hid (S02.Dr W6 wx)) (fun i _ => m - (intOf i).toNat)
          case atStart => exact ⟨0, by omega, rfl, Lib.hid (S02.Dr.refl _)⟩
          case round =>
            obtain ⟨a, ha, rfl, hD⟩ := hrel
            by_cases hla : (a : Int) < m
            · obtain ⟨p, hp⟩ : ∃ p, L[a]? = some p := ⟨_, List.getElem?_eq_getElem (by rw [HM.out]; omega)⟩
              have f1 := HWD.out a p hp
              have f2 := fun j (hj : j < 4) => HS6.out (4 * a + j) (by omega)
              have f3 := fun j (hj : j < 4) => (congrArg (fun x => ((UInt8.toNat x : Nat) : Int)) (AS.bytI_at L a p hp j hj)).trans (AS.byt_val (AS.ecI p) j)
              obtain ⟨E, hE⟩ : ∃ E, AS.ecI p = E := ⟨_, rfl⟩
              have hE2 : (E : Int) < 4294967296 := by have := (AS.ec_nat p).2; omega
              rw [hE] at f1 f3
              have F := Lib.hid (fun j (hj : j < 4) => ((f2 j hj).trans (by rw [f3 j hj]) : W6.cell? ⟨g6, o6 + (4 * a + j), none⟩ = some (.int .u8 ((E : Int) / 256 ^ j % 256))))
              clear hp f2 f3 hE
              go_wp2
              go_loopw [13] (fun j wy => ∃ b : Nat, b ≤ 4 ∧ j = .int .i64 b ∧ Hid (S02.Dr W6 wy)) (fun j _ => 4 - (intOf j).toNat)
              case atStart => exact ⟨0, by omega, rfl, hD⟩
              case round =>
                obtain ⟨b, hb, rfl, hD2⟩ := hrel
                by_cases hlb : (b : Int) < 4
                · have t1 := (hD2.out.cell _).trans f1
                  have t2 := (hD2.out.cell _).trans d0
                  have t3 := (hD2.out.cell _).trans d1
                  have t4 := (hD2.out.cell _).trans s1
                  have t5 := (hD2.out.cell _).trans s2
                  have t6 := (hD2.out.cell _).trans (F.out b (by omega))
                  clear f1 d0 d1 s1 s2
                  have hb4 : b = 0 ∨ b = 1 ∨ b = 2 ∨ b = 3 := by omega
                  have hal4 : 4 * (a : Int) + 4 ≤ M4 := by omega
                  have e1 : IntKind.i64.wrap (4 * (a : Int)) = 4 * (a : Int) := by rw [IntKind.wrap_i64]; omega
                  rcases hb4 with rfl | rfl | rfl | rfl
                  · have e3 : (4 * (a : Int)).toNat = 4 * a := by omega
                    have e4 : 0 ≤ 4 * (a : Int) ∧ 4 * (a : Int) < M4 := by omega
                    rw [show (E : Int) / 256 ^ 0 % 256 = (E : Int) % 256 by omega, Nat.add_zero] at t6
                    go_wp2
                    go_quiet (fail)
                    go_wp2
                    go_roundw
                    case rel => exact ⟨1, by omega, by go_num, Lib.hid (hD2.out.more _)⟩
                    case measure => simp [intOf]
                  · have e2 : IntKind.i64.wrap (4 * (a : Int) + 1) = 4 * (a : Int) + 1 := by rw [IntKind.wrap_i64]; omega
                    have e3 : (4 * (a : Int) + 1).toNat = 4 * a + 1 := by omega
                    have e4 : 0 ≤ 4 * (a : Int) + 1 ∧ 4 * (a : Int) + 1 < M4 := by omega
                    rw [show (E : Int) / 256 ^ 1 % 256 = (E : Int) / 256 % 256 by rfl] at t6
                    go_wp2
                    go_quiet (fail)
                    go_wp2
                    go_roundw
                    case rel => exact ⟨2, by omega, by go_num, Lib.hid (hD2.out.more _)⟩
                    case measure => simp [intOf]
                  · have e2 : IntKind.i64.wrap (4 * (a : Int) + 2) = 4 * (a : Int) + 2 := by rw [IntKind.wrap_i64]; omega
                    have e3 : (4 * (a : Int) + 2).toNat = 4 * a + 2 := by omega
                    have e4 : 0 ≤ 4 * (a : Int) + 2 ∧ 4 * (a : Int) + 2 < M4 := by omega
                    rw [show (E : Int) / 256 ^ 2 % 256 = (E : Int) / 65536 % 256 by rfl] at t6
                    go_wp2
                    go_quiet (fail)
                    go_wp2
                    go_roundw
                    case rel => exact ⟨3, by omega, by go_num, Lib.hid (hD2.out.more _)⟩
                    case measure => simp [intOf]
                  · have e2 : IntKind.i64.wrap (4 * (a : Int) + 3) = 4 * (a : Int) + 3 := by rw [IntKind.wrap_i64]; omega
                    have e3 : (4 * (a : Int) + 3).toNat = 4 * a + 3 := by omega
                    have e4 : 0 ≤ 4 * (a : Int) + 3 ∧ 4 * (a : Int) + 3 < M4 := by omega
                    rw [show (E : Int) / 256 ^ 3 % 256 = (E : Int) / 16777216 by omega] at t6
                    go_wp2
                    go_quiet (fail)
                    go_wp2
                    go_roundw
                    case rel => exact ⟨4, by omega, by go_num, Lib.hid (hD2.out.more _)⟩
                    case measure => simp [intOf]
                · go_wp2
                  go_roundw
                  case rel => exact ⟨a + 1, by omega, by go_num, hD2⟩
                  case measure => simp [intOf]; omega
            · have HB7 := Lib.hid (HR6.out.2.trans (hD.out.below.mono HR6.out.2.size))
              go_wp2_with (go_at_call 8; refine (HAW.out _ HB7.out).mono ?_; rintro e w9 ⟨rfl, hb9⟩; have HB9 := Lib.hid (HB7.out.trans (hb9.mono HB7.out.size)); clear hb9)
              go_ret
              exact ⟨rfl, HB9.out⟩
theorem insts_law (v : Value) (l : List AS.In) (w : World) (hv : InR w v l) (ht : Tw w) : Calls Tryz.prog 5 #[v] w fun e w' => e = .returned (.bool true) ∧ Below w.heap.size w w' := insts_walk hv ht
end Go.Proofs.YtcnmnkgnaknpdaaGreatDoor
