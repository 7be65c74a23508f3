/-
  What the reference's small functions of the second going answer: a value, four bytes of a number, whether a form has an imm, the parts of a value, a list and one more.
  What the reference's last answers: the operands of which the last one is read; its parts.
  What the reference's last answers at an operand that stands behind nothing, with others ahead of it.
  What the reference's last answers, put together; what its Text answers: an instruction's text.
-/
import Derived.Test.YtcnmnkgnaknpdaaGreatDoorGq
import Derived.Test.YtcnmnkgnaknpdaaGreatDoorGn
import Derived.Test.YtcnmnkgnaknpdaaGreatDoorGc
import Derived.OwnWalk
import Derived.Deep.RegionWith
import Derived.Test.YtcnmnkgnaknpdaaGreatDoorGe
import Derived.Test.YtcnmnkgnaknpdaaGreatDoorGh

/-! RfM -/
namespace Go.Proofs.YtcnmnkgnaknpdaaGreatDoor
open Go.RowKit Go.Maps S02 S06 S07
theorem rvalue_any {w : World} {v : Value} {ns : List (List UInt8 × Nat)} (s : ByteArray) (h : NmR w v ns) (hl : ns.length ≤ 1000000) (hu : ∀ p ∈ ns, p.2 < 4294967296) (hs : s.size ≤ 1000000) :
    Calls Tryz.prog 59 #[v, .string s] w fun e w' => (∃ n b, e = .returned (.tuple #[.int .i64 n, .bool b, .int .i64 (AS.rvE ns s.data.toList)]) ∧ (AS.rvE ns s.data.toList = 0 → n = AS.rvN ns s.data.toList)) ∧ w = w' := by
  have HB := Lib.hid (fun W => rbetween_any s (-2147483648) 4294967295 W hs)
  have HI := Lib.hid (fun W => risName_any s W hs)
  have HF := Lib.hid (rfind_any s h hl)
  have HU := Lib.hid (AS.fnd_bd hu s.data.toList)
  clear h hl hu
  rcases AS.nb_cases s.data.toList (-2147483648) 4294967295 with h0 | h0 | h0
  · have HE := Lib.hid (show AS.rvE ns s.data.toList = 0 by unfold AS.rvE; rw [if_pos (.inl h0), h0])
    have HN := Lib.hid (show AS.rvN ns s.data.toList = AS.nbN s.data.toList (-2147483648) 4294967295 by unfold AS.rvN; rw [if_pos h0])
    rw [h0, if_pos rfl] at HB
    clear h0 HI HF
    rw [HE.out]
    generalize AS.nbN s.data.toList (-2147483648) 4294967295 = z at *
    generalize AS.rvN ns s.data.toList = z' at *
    go_enter Tryz.func59, Tryz.ntmps59
    go_wp2_with (go_at_call 100; refine (HB.out _).mono ?_; rintro e w1 ⟨rfl, rfl⟩)
    go_ret3
    exact ⟨⟨_, _, rfl, fun _ => HN.out.symm⟩, rfl⟩
  · rw [h0, if_neg (by decide)] at HB
    cases hn : AS.isNm s.data.toList
    · have HE := Lib.hid (show AS.rvE ns s.data.toList = 2 by unfold AS.rvE; rw [h0, if_neg (by decide), hn]; rfl)
      rw [hn] at HI
      rw [HE.out]
      clear h0 hn HF HE
      generalize AS.rvN ns s.data.toList = z' at *
      go_enter Tryz.func59, Tryz.ntmps59
      go_wp2_with (first | (go_at_call 100; refine (HB.out _).mono ?_; rintro e w1 ⟨rfl, rfl⟩) | (go_at_call 97; refine (HI.out _).mono ?_; rintro e w2 ⟨rfl, rfl⟩))
      go_ret3
      exact ⟨⟨_, _, rfl, fun h => by cases h⟩, rfl⟩
    · rw [hn] at HI
      cases hf : AS.fnd ns s.data.toList with
      | none =>
        have HE := Lib.hid (show AS.rvE ns s.data.toList = 10 by unfold AS.rvE; rw [h0, if_neg (by decide), hn, hf]; rfl)
        rw [hf] at HF
        rw [HE.out]
        clear h0 hn hf HE
        generalize AS.rvN ns s.data.toList = z' at *
        go_enter Tryz.func59, Tryz.ntmps59
        go_wp2_with (first | (go_at_call 100; refine (HB.out _).mono ?_; rintro e w1 ⟨rfl, rfl⟩) | (go_at_call 97; refine (HI.out _).mono ?_; rintro e w2 ⟨rfl, rfl⟩) | (go_at_call 28; refine HF.out.mono ?_; rintro e w3 ⟨rfl, rfl⟩))
        go_ret3
        exact ⟨⟨_, _, rfl, fun h => by cases h⟩, rfl⟩
      | some u =>
        have HE := Lib.hid (show AS.rvE ns s.data.toList = 0 by unfold AS.rvE; rw [h0, if_neg (by decide), hn, hf]; rfl)
        have HN := Lib.hid (show AS.rvN ns s.data.toList = (u : Nat) by unfold AS.rvN; rw [if_neg (by rw [h0]; decide), hf]; rfl)
        rw [hf] at HF HU
        have HU2 := Lib.hid (show u < 4294967296 from HU.out)
        rw [HE.out]
        clear h0 hn hf HE HU
        generalize AS.rvN ns s.data.toList = z' at *
        go_enter Tryz.func59, Tryz.ntmps59
        go_wp2_with (first | (go_at_call 100; refine (HB.out _).mono ?_; rintro e w1 ⟨rfl, rfl⟩) | (go_at_call 97; refine (HI.out _).mono ?_; rintro e w2 ⟨rfl, rfl⟩) | (go_at_call 28; refine HF.out.mono ?_; rintro e w3 ⟨rfl, rfl⟩))
        go_ret3
        exact ⟨⟨_, _, rfl, fun _ => by rw [HN.out]; have := HU2.out; unfold wrap64; omega⟩, rfl⟩
  · have HE := Lib.hid (show AS.rvE ns s.data.toList = 3 by unfold AS.rvE; rw [if_pos (.inr h0), h0])
    rw [h0, if_neg (by decide)] at HB
    rw [HE.out]
    clear h0 HI HF HE
    generalize AS.rvN ns s.data.toList = z' at *
    go_enter Tryz.func59, Tryz.ntmps59
    go_wp2_with (go_at_call 100; refine (HB.out _).mono ?_; rintro e w1 ⟨rfl, rfl⟩)
    go_ret3
    exact ⟨⟨_, _, rfl, fun h => by cases h⟩, rfl⟩
theorem byt_int (u : Nat) (k : Nat) : ((AS.byt u k).toNat : Int) = (u : Int) / 256 ^ k % 256 := by
  unfold AS.byt
  rw [UInt8.toNat_ofNat', Nat.mod_eq_of_lt (Nat.mod_lt _ (by decide)), Int.natCast_emod, Int.natCast_ediv, Int.natCast_pow]
  rfl
theorem rfour_any (u : Nat) (w : World) (h : u < 4294967296) : Calls Tryz.prog 58 #[.int .u32 u] w fun e w' => e = .returned (.slice (some ⟨w.heap.size, 0, none⟩) 4 4) ∧ w' = w.alloc (.cells #[.int .u8 (AS.byt u 0).toNat, .int .u8 (AS.byt u 1).toNat, .int .u8 (AS.byt u 2).toNat, .int .u8 (AS.byt u 3).toNat] 5) := by
  have e0 : ((AS.byt u 0).toNat : Int) = (u : Int) % 256 := by rw [byt_int]; simp
  have e1 : ((AS.byt u 1).toNat : Int) = (u : Int) / 256 % 256 := by rw [byt_int]; rfl
  have e2 : ((AS.byt u 2).toNat : Int) = (u : Int) / 65536 % 256 := by rw [byt_int]; rfl
  have e3 : ((AS.byt u 3).toNat : Int) = (u : Int) / 16777216 := by rw [byt_int, show (256 : Int) ^ 3 = 16777216 from rfl]; omega
  rw [e0, e1, e2, e3]
  clear e0 e1 e2 e3
  have hu : (u : Int) < 4294967296 := by omega
  clear h
  go_enter Tryz.func58, Tryz.ntmps58
  go_wp2
  go_ret
  refine ⟨rfl, ?_⟩
  rfl
theorem rimm_any (f : Int) (w : World) : Calls Tryz.prog 139 #[.int .i64 f] w fun e w' => e = .returned (.bool (AS.hasI f)) ∧ w = w' := by
  go_enter Tryz.func139, Tryz.ntmps139
  go_wp2
  all_goals
    go_ret
    refine ⟨S02.ret_bool ?_, rfl⟩
    rw [Bool.eq_iff_iff]
    try simp only []  at *
    simp [AS.hasI, *]
theorem rpart_hi (v : Nat) (w : World) (h : v < 4294967296) : Calls Tryz.prog 141 #[.bool true, .int .u32 v] w fun e w' => e = .returned (.int .i64 (AS.hiV v)) ∧ w = w' := by
  have hv : (v : Int) < 4294967296 := by omega
  clear h
  go_enter Tryz.func141, Tryz.ntmps141
  go_wp2
  go_ret
  exact ⟨rfl, rfl⟩
theorem rpart_lo (v : Nat) (w : World) (h : v < 4294967296) : Calls Tryz.prog 141 #[.bool false, .int .u32 v] w fun e w' => e = .returned (.int .i64 (AS.loV v)) ∧ w = w' := by
  have hv : (v : Int) < 4294967296 := by omega
  clear h
  by_cases h : (v : Int) % 16384 < 8192
  · have e : AS.loV v = (v : Int) % 16384 := by unfold AS.loV; omega
    rw [e]
    clear e
    have h' : decide (8192 ≤ (v : Int) % 16384) = false := by simp; omega
    clear h
    go_enter Tryz.func141, Tryz.ntmps141
    go_wp2
    go_ret
    exact ⟨rfl, rfl⟩
  · have e : AS.loV v = (v : Int) % 16384 - 16384 := by unfold AS.loV; omega
    rw [e]
    clear e
    have h' : decide (8192 ≤ (v : Int) % 16384) = true := by simp; omega
    clear h
    go_enter Tryz.func141, Tryz.ntmps141
    go_wp2
    go_ret
    exact ⟨rfl, rfl⟩
theorem rpart_any (b : Bool) (v : Nat) (w : World) (h : v < 4294967296) : Calls Tryz.prog 141 #[.bool b, .int .u32 v] w fun e w' => e = .returned (.int .i64 (if b = true then AS.hiV v else AS.loV v)) ∧ w = w' := by
  cases b
  · exact rpart_lo v w h
  · exact rpart_hi v w h
theorem tv_of (x : ByteArray) : Value.string x = NM.tv x.data.toList := rfl
theorem rwith_any {w : World} {lv : Value} {l : List (List UInt8)} (s : ByteArray) (hv : TxR w lv l) (hl : l.length ≤ 1000000) :
    Calls Tryz.prog 140 #[lv, .string s] w fun e w' => ∃ v, e = .returned v ∧ Row w w' v (l ++ [s.data.toList]) := by
  obtain ⟨i0, HI⟩ := info_parts S02.str_info
  have HI := Lib.hid HI
  obtain ⟨n, hn⟩ : ∃ n, l.length = n := ⟨_, rfl⟩
  obtain ⟨va, vc, rfl⟩ := txr_len hv
  rw [hn] at hl hv ⊢
  have HN := Lib.hid hn
  have HV := Lib.hid hv
  clear hn hv
  go_enter Tryz.func140, Tryz.ntmps140
  go_wp2
  go_loopw [5, 6] (fun v i wr => ∃ k : Nat, k ≤ n ∧ i = .int .i64 k ∧ Hid (Row w wr v (l.take k))) (fun _ i _ => n - (intOf i).toNat)
  case atStart => exact ⟨0, by omega, rfl, Lib.hid (Row.start w)⟩
  case round =>
    obtain ⟨k, hk, rfl, hR⟩ := hrel
    by_cases hlt : (k : Int) < n
    · have hkl : k < l.length := by rw [HN.out]; omega
      have hne : l ≠ [] := by intro e; rw [e] at hkl; simp at hkl
      obtain ⟨g, o, c, e⟩ := txr_form HV.out hne
      injection e with e1 e2 e3
      subst e1 e3
      obtain ⟨S, hS, hS1, hS2⟩ := bt_of (l.getD k [])
      have g0 := HV.out.cellOf hne k hkl
      have gc : w.cell? ⟨g, o + k, none⟩ = some (.string S) := by rw [g0, ← hS]; rfl
      have gr : wr.cell? ⟨g, o + k, none⟩ = some (.string S) := cell_below hR.out.2 gc
      obtain ⟨acc, hacc⟩ : ∃ acc, l.take k = acc := ⟨_, rfl⟩
      have HTK := Lib.hid (show l.take (k + 1) = acc ++ [S.data.toList] by rw [← hacc]; rw [hS1, List.take_succ_eq_append_getElem hkl, List.getD_eq_getElem?_getD, List.getElem?_eq_getElem hkl]; rfl)
      have hq : acc.length ≤ 1000000 := by rw [← hacc, List.length_take]; omega
      rw [hacc] at hR
      clear hS hS1 hS2 g0 gc hkl hne e2 hacc
      go_wp2_with (at_builtin; refine wpList_append_own _ rfl _ _ 38 rfl w.heap.size 9 i0 (.string ⟨#[]⟩) 1 16 Tryz.underlying38 HI.out.1 HI.out.2.1 HI.out.2.2.1 HI.out.2.2.2 rfl (by decide) _ _ _ rfl (hR.out.1.alloc _) ⟨_, 0, none⟩ 1 1 [.string S] rfl rfl (S02.new_cell _ _ _) (S02.one_str _) (by unfold maxLen; omega) (by omega) (by have := hR.out.2.size; simp; omega) ?_)
      intro v' w1 hown hgrow _
      have HR := Lib.hid (hR.out.app (tv_of S) hown hgrow)
      rw [← HTK.out] at HR
      clear hown hgrow
      go_wp2
      go_roundw
      case rel => exact ⟨k + 1, by omega, by go_num, HR⟩
      case measure => simp [intOf]; omega
    · obtain rfl : k = n := by omega
      have HTK := Lib.hid (show l.take k = l by rw [← HN.out, List.take_length])
      rw [HTK.out] at hR
      have hq : l.length ≤ 1000000 := by rw [HN.out]; omega
      clear hlt
      go_wp2_with (at_builtin; refine wpList_append_own _ rfl _ _ 38 rfl w.heap.size 9 i0 (.string ⟨#[]⟩) 1 16 Tryz.underlying38 HI.out.1 HI.out.2.1 HI.out.2.2.1 HI.out.2.2.2 rfl (by decide) _ _ _ rfl (hR.out.1.alloc _) ⟨_, 0, none⟩ 1 1 [.string s] rfl rfl (S02.new_cell _ _ _) (S02.one_str _) (by unfold maxLen; omega) (by omega) (by have := hR.out.2.size; simp; omega) ?_)
      intro v' w1 hown hgrow _
      have HR := Lib.hid (hR.out.app (tv_of s) hown hgrow)
      clear hown hgrow
      go_wp2
      go_ret
      exact ⟨_, rfl, HR.out⟩
end Go.Proofs.YtcnmnkgnaknpdaaGreatDoor
/-! RfNa -/
namespace Go.Proofs.YtcnmnkgnaknpdaaGreatDoor
open Go.RowKit Go.Maps S02 S06 S07
theorem TxR.take {w : World} {g o n c t : Nat} {l : List (List UInt8)} (h : TxR w (.slice (some ⟨g, o, none⟩) n c) l) (hn : l.length = n) (ht : t ≤ n) : TxR w (.slice (some ⟨g, o, none⟩) t c) (l.take t) := by
  by_cases h0 : t = 0
  · subst h0; exact .inl ⟨rfl, _, _, rfl⟩
  · have hl : (l.take t).length = t := by rw [List.length_take]; omega
    rcases h with ⟨rfl, _⟩ | ⟨_, g', o', c', cs, fr, e, h1, h2, h3, h4⟩
    · simp at hn; omega
    · injection e with e1 e2 e3
      injection e1 with e1
      injection e1 with e4 e5
      subst e3 e4 e5
      refine .inr ⟨fun e => by rw [e] at hl; simp at hl; omega, g, o, c, cs, fr, by rw [hl], by omega, h2, h3, fun j hj => ?_⟩
      rw [hl] at hj
      rw [h4 j (by omega), List.getD_eq_getElem?_getD, List.getD_eq_getElem?_getD, List.getElem?_take, if_pos hj]
theorem TxR.on {w w' : World} {v : Value} {l : List (List UInt8)} (h : TxR w v l) (hb : Below w.heap.size w w') : TxR w' v l := h.rm (RM.below (N := 0) hb (Nat.zero_le _))
/-- A slice of texts and an error; the texts are told where there is none. -/
def LsPost (w : World) (E : Int) (L : List (List UInt8)) (e : Ending) (w' : World) : Prop := ∃ v, e = .returned (.tuple #[v, .int .i64 E]) ∧ (∃ a n c, v = .slice a n c) ∧ Below w.heap.size w w' ∧ (E = 0 → TxR w' v L)
theorem LsPost.bad {w w' : World} {E : Int} {L : List (List UInt8)} {a : Option Addr} {n c : Nat} (hE : ¬ E = 0) (hb : Below w.heap.size w w') : LsPost w E L (.returned (.tuple #[.slice a n c, .int .i64 E])) w' := ⟨_, rfl, ⟨_, _, _, rfl⟩, hb, fun h => absurd h hE⟩
theorem LsPost.ok {w w1 w' : World} {L : List (List UInt8)} {v : Value} (hb : Below w.heap.size w w1) (hr : Row w1 w' v L) : LsPost w 0 L (.returned (.tuple #[v, .int .i64 0])) w' := ⟨v, rfl, (by obtain ⟨a, c, e⟩ := own_form hr.1; exact ⟨a, _, c, e⟩), hb.trans (hr.2.mono hb.size), fun _ => TxR.of_row hr⟩
theorem rlast_none {w : World} {nv lv : Value} {l : List (List UInt8)} (op at' f : Int) (hv : TxR w lv l) (hf : l = [] ∨ AS.hasI f = false) (hl : l.length ≤ 1000000) :
    Calls Tryz.prog 103 #[nv, .int .i64 op, .int .i64 f, .int .i64 at', lv] w (LsPost w 0 l) := by
  obtain ⟨n, hn⟩ : ∃ n, l.length = n := ⟨_, rfl⟩
  obtain ⟨va, vc, rfl⟩ := txr_len hv
  rw [hn] at hl hv ⊢
  have HV := Lib.hid hv
  by_cases h0 : n = 0
  · subst h0
    clear hf hn hv
    go_enter Tryz.func103, Tryz.ntmps103
    go_wp2
    go_ret2
    exact ⟨_, rfl, ⟨_, _, _, rfl⟩, Below.refl _ _, fun _ => HV.out⟩
  · have hf : AS.hasI f = false := hf.resolve_left (fun e => by rw [e] at hn; simp at hn; omega)
    have HI := Lib.hid (fun W => rimm_any f W)
    rw [hf] at HI
    have h0' : ((n : Int) == 0) = false := by simp; omega
    clear hf hn hv h0
    go_enter Tryz.func103, Tryz.ntmps103
    go_wp2_with (go_at_call 139; refine (HI.out _).mono ?_; rintro e w1 ⟨rfl, rfl⟩)
    go_ret2
    exact ⟨_, rfl, ⟨_, _, _, rfl⟩, Below.refl _ _, fun _ => HV.out⟩
theorem TxR.caps {w : World} {g o n c : Nat} {l : List (List UInt8)} (h : TxR w (.slice (some ⟨g, o, none⟩) n c) l) (hn : l.length = n) (h0 : 0 < n) : n ≤ c ∧ c ≤ 9223372036854775807 := by
  rcases h with ⟨rfl, _⟩ | ⟨_, g', o', c', cs, fr, e, h1, h2, h3, h4⟩
  · simp at hn; omega
  · injection e with e1 e2 e3
    subst e3
    unfold maxLen at h2
    omega
theorem take_last {l : List (List UInt8)} {k : Nat} {s : List UInt8} (hl : l.length = k + 1) (hs : s = l.getD k []) : l.take k ++ [s] = l := by
  have h : k < l.length := by omega
  rw [hs, List.getD_eq_getElem?_getD, List.getElem?_eq_getElem h]
  have := List.take_succ_eq_append_getElem h
  rw [show k + 1 = l.length by omega, List.take_length] at this
  exact this.symm
namespace AS
/-- How an imm is read that stands behind nothing. -/
theorem im_cases (ns : List (List UInt8 × Nat)) (pos : Nat) (op : Int) (s : List UInt8) :
    (NM.pE s = 3 ∧ imE ns pos op [] s = 3) ∨ (NM.pE s = 0 ∧ imE ns pos op [] s = 0 ∧ imT ns pos op [] s = Lib.itoa (NM.pN s)) ∨ (NM.pE s = 2 ∧ isNm s = false ∧ imE ns pos op [] s = 0 ∧ imT ns pos op [] s = s)
      ∨ (NM.pE s = 2 ∧ isNm s = true ∧ fnd ns s = none ∧ imE ns pos op [] s = 10) ∨ ∃ u : Nat, NM.pE s = 2 ∧ isNm s = true ∧ fnd ns s = some u ∧
        ((op = 49 ∨ IM.fm op = 4 → imE ns pos op [] s = (if ((u : Int) - pos) % 4 = 0 then 0 else 3) ∧ imT ns pos op [] s = Lib.itoa (sgV ((u : Int) - pos) / 4)) ∧ (¬ (op = 49 ∨ IM.fm op = 4) → imE ns pos op [] s = 0 ∧ imT ns pos op [] s = Lib.itoa (sgV u))) := by
  cases hn : isNm s
  · rcases pE_cases s with h | h | h
    · exact .inr (.inl ⟨h, by unfold imE; rw [hn, h]; rfl, by unfold imT; rw [hn, if_pos ⟨rfl, rfl⟩, if_pos h]⟩)
    · exact .inr (.inr (.inl ⟨h, rfl, by unfold imE; rw [hn, h]; rfl, by unfold imT; rw [hn, if_pos ⟨rfl, rfl⟩, if_neg (by rw [h]; decide)]⟩))
    · exact .inl ⟨h, by unfold imE; rw [hn, h]; rfl⟩
  · have hp := pE_name hn
    cases hf : fnd ns s with
    | none =>
      refine .inr (.inr (.inr (.inl ⟨hp, rfl, rfl, ?_⟩)))
      unfold imE lkE
      rw [hn, hf]
      simp
    | some u =>
      have hE : lkE ns s = 0 := by unfold lkE; rw [hn, hf]; rfl
      have hN : lkN ns s = (u : Nat) := by unfold lkN; rw [hn, hf]; rfl
      have hc : ¬ (([] : List UInt8) = [] ∧ isNm s = false) := by rw [hn]; simp
      refine .inr (.inr (.inr (.inr ⟨u, hp, rfl, rfl, fun hd => ⟨?_, ?_⟩, fun hd => ⟨?_, ?_⟩⟩)))
      · unfold imE
        rw [if_neg hc, hE, if_pos rfl, hN]
        by_cases h4 : ((u : Int) - pos) % 4 = 0
        · rw [if_neg (fun h => h.2.2 h4), if_pos h4]
        · rw [if_pos ⟨rfl, hd, h4⟩, if_neg h4]
      · unfold imT
        rw [if_neg hc, if_neg (by simp [tHi]), if_neg (by simp [tLo]), if_pos hd, hN]
      · unfold imE
        rw [if_neg hc, hE, if_pos rfl, if_neg (fun h => hd h.2.1)]
      · unfold imT
        rw [if_neg hc, if_neg (by simp [tHi]), if_neg (by simp [tLo]), if_neg hd, hN]
end AS

set_option maxHeartbeats 4000000 in
theorem rlast_hi {w : World} {nv : Value} {ns : List (List UInt8 × Nat)} {l : List (List UInt8)} (op at' f : Int) (g o c k : Nat) (S R : ByteArray) (hn : NmR w nv ns) (hnl : ns.length ≤ 1000000) (hu : ∀ p ∈ ns, p.2 < 4294967296) (hl : l.length = k + 2) (hv : TxR w (.slice (some ⟨g, o, none⟩) (k + 2) c) l) (hk : k ≤ 1000000) (hf : AS.hasI f = true)
    (hS : S.data.toList = l.getD (k + 1) []) (hz : S.size ≤ 1000000) (hR : R.data.toList = l.getD k []) (hh : R.data.toList = [104, 105]) :
    Calls Tryz.prog 103 #[nv, .int .i64 op, .int .i64 f, .int .i64 at', .slice (some ⟨g, o, none⟩) (k + 2) c] w (LsPost w (AS.lkE ns S.data.toList) (l.take k ++ [Lib.itoa (AS.hiV (AS.lkN ns S.data.toList))])) := by
  have HI := Lib.hid (fun W => rimm_any f W)
  rw [hf] at HI
  have HS := Lib.hid (fun W => risName_any S W hz)
  have HF := Lib.hid (rfind_any S hn hnl)
  have HU := Lib.hid (AS.fnd_bd hu S.data.toList)
  have HT := Lib.hid (hv.take (t := k) hl (by omega))
  have g1 := hv.cellOf (by intro e; rw [e] at hl; simp at hl) (k + 1) (by omega)
  have g2 := hv.cellOf (by intro e; rw [e] at hl; simp at hl) k (by omega)
  replace g1 : w.cell? ⟨g, o + (k + 1), none⟩ = some (.string S) := by rw [g1, ← hS]; rfl
  replace g2 : w.cell? ⟨g, o + k, none⟩ = some (.string R) := by rw [g2, ← hR]; rfl
  obtain ⟨hc, hcm⟩ : k + 2 ≤ c ∧ c ≤ 9223372036854775807 := hv.caps hl (by omega)
  have hw : IntKind.i64.wrap (k : Int) = k := by rw [IntKind.wrap_i64]; omega
  have hkc : (k : Int) ≤ c := by omega
  have hRS : R = ⟨#[104, 105]⟩ := by cases R; simp only [ByteArray.mk.injEq]; exact Array.toList_inj.mp hh
  have HTL := Lib.hid (show (l.take k).length ≤ 1000000 by rw [List.length_take]; omega)
  subst hRS
  clear hn hnl hu hl hv hS hz hR hh hf
  cases hnm : AS.isNm S.data.toList
  · have HE := Lib.hid (show AS.lkE ns S.data.toList = 2 by unfold AS.lkE; rw [hnm]; rfl)
    rw [hnm] at HS
    rw [HE.out]
    clear hnm HF HU HE HT
    go_enter Tryz.func103, Tryz.ntmps103
    go_wp2_with (first | (go_at_call 139; refine (HI.out _).mono ?_; rintro e w1 ⟨rfl, rfl⟩) | (go_at_call 97; refine (HS.out _).mono ?_; rintro e w2 ⟨rfl, rfl⟩))
    go_ret2
    exact LsPost.bad (by decide) (Below.refl _ _)
  · rw [hnm] at HS
    cases hfd : AS.fnd ns S.data.toList with
    | none =>
      have HE := Lib.hid (show AS.lkE ns S.data.toList = 10 by unfold AS.lkE; rw [hnm, hfd]; rfl)
      rw [hfd] at HF
      rw [HE.out]
      clear hnm HU HE HT hfd
      go_enter Tryz.func103, Tryz.ntmps103
      go_wp2_with (first | (go_at_call 139; refine (HI.out _).mono ?_; rintro e w1 ⟨rfl, rfl⟩) | (go_at_call 97; refine (HS.out _).mono ?_; rintro e w2 ⟨rfl, rfl⟩) | (go_at_call 28; refine HF.out.mono ?_; rintro e w3 ⟨rfl, rfl⟩))
      go_ret2
      exact LsPost.bad (by decide) (Below.refl _ _)
    | some u =>
      have HE := Lib.hid (show AS.lkE ns S.data.toList = 0 by unfold AS.lkE; rw [hnm, hfd]; rfl)
      have HEN := Lib.hid (show AS.lkN ns S.data.toList = (u : Nat) by unfold AS.lkN; rw [hnm, hfd]; rfl)
      rw [hfd] at HF
      have hu : u < 4294967296 := by have := HU.out; rw [hfd] at this; exact this
      rw [HE.out, HEN.out]
      have HQ := Lib.hid (fun W => rpart_hi u W hu)
      obtain ⟨z, hzv⟩ : ∃ z, AS.hiV (u : Nat) = z := ⟨_, rfl⟩
      have hbz := AS.hiV_bd (u : Nat)
      rw [hzv] at HQ hbz ⊢
      obtain ⟨T, hT, hT1, hT2⟩ := bt_of (Lib.itoa z)
      have HD := Lib.hid (fun W => S02.rdec_any z W (by omega) (by omega))
      rw [hT] at HD
      have HW := Lib.hid (fun (W : World) (hb : Below w.heap.size w W) => rwith_any T (HT.out.on hb) HTL.out)
      have HT1 := Lib.hid hT1
      clear hnm HU HE HEN HT hfd hu hT hT1 hT2 hzv hbz
      go_enter Tryz.func103, Tryz.ntmps103
      go_upto_region 11 with (first | (go_at_call 139; refine (HI.out _).mono ?_; rintro e w1 ⟨rfl, rfl⟩) | (go_at_call 97; refine (HS.out _).mono ?_; rintro e w2 ⟨rfl, rfl⟩) | (go_at_call 28; refine HF.out.mono ?_; rintro e w3 ⟨rfl, rfl⟩))
      go_region_with (first
        | (go_at_call 141; refine (HQ.out _).mono ?_; rintro e w5 ⟨rfl, rfl⟩)
        | (go_at_call 111; refine (HD.out _).mono ?_; rintro e w6 ⟨rfl, hb6⟩; have HB6 := Lib.hid (show Below w.heap.size w w6 from (Below.refl _ w).drew.trans hb6); clear hb6)
        | (go_at_call 140; refine (HW.out _ HB6.out).mono ?_; rintro e w7 ⟨v7, rfl, hr7⟩; have HR7 := Lib.hid (LsPost.ok HB6.out hr7); clear hr7))
      all_goals
        go_wp2
        go_ret2
        rw [HT1.out] at HR7
        exact HR7.out

set_option maxHeartbeats 4000000 in
theorem rlast_lo {w : World} {nv : Value} {ns : List (List UInt8 × Nat)} {l : List (List UInt8)} (op at' f : Int) (g o c k : Nat) (S R : ByteArray) (hn : NmR w nv ns) (hnl : ns.length ≤ 1000000) (hu : ∀ p ∈ ns, p.2 < 4294967296) (hl : l.length = k + 2) (hv : TxR w (.slice (some ⟨g, o, none⟩) (k + 2) c) l) (hk : k ≤ 1000000) (hf : AS.hasI f = true)
    (hS : S.data.toList = l.getD (k + 1) []) (hz : S.size ≤ 1000000) (hR : R.data.toList = l.getD k []) (hh : R.data.toList = [108, 111]) :
    Calls Tryz.prog 103 #[nv, .int .i64 op, .int .i64 f, .int .i64 at', .slice (some ⟨g, o, none⟩) (k + 2) c] w (LsPost w (AS.lkE ns S.data.toList) (l.take k ++ [Lib.itoa (AS.loV (AS.lkN ns S.data.toList))])) := by
  have HI := Lib.hid (fun W => rimm_any f W)
  rw [hf] at HI
  have HS := Lib.hid (fun W => risName_any S W hz)
  have HF := Lib.hid (rfind_any S hn hnl)
  have HU := Lib.hid (AS.fnd_bd hu S.data.toList)
  have HT := Lib.hid (hv.take (t := k) hl (by omega))
  have g1 := hv.cellOf (by intro e; rw [e] at hl; simp at hl) (k + 1) (by omega)
  have g2 := hv.cellOf (by intro e; rw [e] at hl; simp at hl) k (by omega)
  replace g1 : w.cell? ⟨g, o + (k + 1), none⟩ = some (.string S) := by rw [g1, ← hS]; rfl
  replace g2 : w.cell? ⟨g, o + k, none⟩ = some (.string R) := by rw [g2, ← hR]; rfl
  obtain ⟨hc, hcm⟩ : k + 2 ≤ c ∧ c ≤ 9223372036854775807 := hv.caps hl (by omega)
  have hw : IntKind.i64.wrap (k : Int) = k := by rw [IntKind.wrap_i64]; omega
  have hkc : (k : Int) ≤ c := by omega
  have hRS : R = ⟨#[108, 111]⟩ := by cases R; simp only [ByteArray.mk.injEq]; exact Array.toList_inj.mp hh
  have HTL := Lib.hid (show (l.take k).length ≤ 1000000 by rw [List.length_take]; omega)
  subst hRS
  clear hn hnl hu hl hv hS hz hR hh hf
  cases hnm : AS.isNm S.data.toList
  · have HE := Lib.hid (show AS.lkE ns S.data.toList = 2 by unfold AS.lkE; rw [hnm]; rfl)
    rw [hnm] at HS
    rw [HE.out]
    clear hnm HF HU HE HT
    go_enter Tryz.func103, Tryz.ntmps103
    go_wp2_with (first | (go_at_call 139; refine (HI.out _).mono ?_; rintro e w1 ⟨rfl, rfl⟩) | (go_at_call 97; refine (HS.out _).mono ?_; rintro e w2 ⟨rfl, rfl⟩))
    go_ret2
    exact LsPost.bad (by decide) (Below.refl _ _)
  · rw [hnm] at HS
    cases hfd : AS.fnd ns S.data.toList with
    | none =>
      have HE := Lib.hid (show AS.lkE ns S.data.toList = 10 by unfold AS.lkE; rw [hnm, hfd]; rfl)
      rw [hfd] at HF
      rw [HE.out]
      clear hnm HU HE HT hfd
      go_enter Tryz.func103, Tryz.ntmps103
      go_wp2_with (first | (go_at_call 139; refine (HI.out _).mono ?_; rintro e w1 ⟨rfl, rfl⟩) | (go_at_call 97; refine (HS.out _).mono ?_; rintro e w2 ⟨rfl, rfl⟩) | (go_at_call 28; refine HF.out.mono ?_; rintro e w3 ⟨rfl, rfl⟩))
      go_ret2
      exact LsPost.bad (by decide) (Below.refl _ _)
    | some u =>
      have HE := Lib.hid (show AS.lkE ns S.data.toList = 0 by unfold AS.lkE; rw [hnm, hfd]; rfl)
      have HEN := Lib.hid (show AS.lkN ns S.data.toList = (u : Nat) by unfold AS.lkN; rw [hnm, hfd]; rfl)
      rw [hfd] at HF
      have hu : u < 4294967296 := by have := HU.out; rw [hfd] at this; exact this
      rw [HE.out, HEN.out]
      have HQ := Lib.hid (fun W => rpart_lo u W hu)
      obtain ⟨z, hzv⟩ : ∃ z, AS.loV (u : Nat) = z := ⟨_, rfl⟩
      have hbz := AS.loV_bd (u : Nat)
      rw [hzv] at HQ hbz ⊢
      obtain ⟨T, hT, hT1, hT2⟩ := bt_of (Lib.itoa z)
      have HD := Lib.hid (fun W => S02.rdec_any z W (by omega) (by omega))
      rw [hT] at HD
      have HW := Lib.hid (fun (W : World) (hb : Below w.heap.size w W) => rwith_any T (HT.out.on hb) HTL.out)
      have HT1 := Lib.hid hT1
      clear hnm HU HE HEN HT hfd hu hT hT1 hT2 hzv hbz
      go_enter Tryz.func103, Tryz.ntmps103
      go_upto_region 11 with (first | (go_at_call 139; refine (HI.out _).mono ?_; rintro e w1 ⟨rfl, rfl⟩) | (go_at_call 97; refine (HS.out _).mono ?_; rintro e w2 ⟨rfl, rfl⟩) | (go_at_call 28; refine HF.out.mono ?_; rintro e w3 ⟨rfl, rfl⟩))
      go_region_with (first
        | (go_at_call 141; refine (HQ.out _).mono ?_; rintro e w5 ⟨rfl, rfl⟩)
        | (go_at_call 111; refine (HD.out _).mono ?_; rintro e w6 ⟨rfl, hb6⟩; have HB6 := Lib.hid (show Below w.heap.size w w6 from (Below.refl _ w).drew.trans hb6); clear hb6)
        | (go_at_call 140; refine (HW.out _ HB6.out).mono ?_; rintro e w7 ⟨v7, rfl, hr7⟩; have HR7 := Lib.hid (LsPost.ok HB6.out hr7); clear hr7))
      all_goals
        go_wp2
        go_ret2
        rw [HT1.out] at HR7
        exact HR7.out

set_option maxHeartbeats 4000000 in
theorem rlast_one {w : World} {nv : Value} {ns : List (List UInt8 × Nat)} {l : List (List UInt8)} (op f : Int) (at' g o c : Nat) (S : ByteArray) (hn : NmR w nv ns) (hnl : ns.length ≤ 1000000) (hu : ∀ p ∈ ns, p.2 < 4294967296) (ha : at' ≤ 16384) (hfm : f = IM.fm op) (hl : l.length = 1) (hv : TxR w (.slice (some ⟨g, o, none⟩) (1) c) l) (hf : AS.hasI f = true)
    (hS : S.data.toList = l.getD (0) []) (hz : S.size ≤ 1000000) :
    Calls Tryz.prog 103 #[nv, .int .i64 op, .int .i64 f, .int .i64 at', .slice (some ⟨g, o, none⟩) (1) c] w (LsPost w (AS.imE ns at' op [] S.data.toList) (([] : List (List UInt8)) ++ [AS.imT ns at' op [] S.data.toList])) := by
  have HI := Lib.hid (fun W => rimm_any f W)
  rw [hf] at HI
  have HS := Lib.hid (fun W => risName_any S W hz)
  have HP := Lib.hid (fun W => S02.rparse_any S W (by omega))
  have HF := Lib.hid (rfind_any S hn hnl)
  have HU := Lib.hid (AS.fnd_bd hu S.data.toList)
  have HT := Lib.hid (show TxR w (.slice (some ⟨g, o, none⟩) 0 c) [] from .inl ⟨rfl, _, _, rfl⟩)
  have g1 := hv.cellOf (by intro e; rw [e] at hl; simp at hl) (0) (by omega)
  replace g1 : w.cell? ⟨g, o, none⟩ = some (.string S) := by rw [Nat.add_zero] at g1; rw [g1, ← hS]; rfl
  obtain ⟨hc, hcm⟩ : 1 ≤ c ∧ c ≤ 9223372036854775807 := hv.caps hl (by omega)
  have hw : IntKind.i64.wrap 0 = 0 := rfl
  have hkc : (0 : Int) ≤ c := by omega
  have HFM := Lib.hid hfm
  have HTL := Lib.hid (show (([] : List (List UInt8))).length ≤ 1000000 by simp)
  have HAL := Lib.hid (show ([] : List (List UInt8)) ++ [S.data.toList] = l by rw [← take_last hl hS]; rfl)
  have HV := Lib.hid hv
  clear hn hnl hu hl hv hS hz hf hfm
  rcases AS.im_cases ns at' op S.data.toList with ⟨h1, h2⟩ | ⟨h1, h2, h3⟩ | ⟨h1, h0, h2, h3⟩ | ⟨h1, h0, h4, h2⟩ | ⟨u, h1, h0, h4, h5⟩
  · rw [h2]
    rw [h1] at HP
    clear h1 h2 HT HF HU
    generalize NM.pN S.data.toList = z at *
    go_enter Tryz.func103, Tryz.ntmps103
    go_wp2_with (first | (go_at_call 139; refine (HI.out _).mono ?_; rintro e w1 ⟨rfl, rfl⟩) | (go_at_call 138; refine (HP.out _).mono ?_; rintro e w4 ⟨rfl, rfl⟩))
    go_ret2
    exact LsPost.bad (by decide) (Below.refl _ _)
  · rw [h2, h3]
    rw [h1] at HP
    have hbz := AS.pN_bd S.data.toList
    clear h1 h2 h3 HF HU
    generalize NM.pN S.data.toList = z at *
    obtain ⟨T, hT, hT1, hT2⟩ := bt_of (Lib.itoa z)
    have HD := Lib.hid (fun W => S02.rdec_any z W (by omega) (by omega))
    rw [hT] at HD
    have HW := Lib.hid (fun (W : World) (hb : Below w.heap.size w W) => rwith_any T (HT.out.on hb) HTL.out)
    have HT1 := Lib.hid hT1
    clear hT hT1 hT2 hbz
    go_enter Tryz.func103, Tryz.ntmps103
    go_upto_region 16 with (first | (go_at_call 139; refine (HI.out _).mono ?_; rintro e w1 ⟨rfl, rfl⟩) | (go_at_call 138; refine (HP.out _).mono ?_; rintro e w4 ⟨rfl, rfl⟩))
    go_region_with (first
      | (go_at_call 111; refine (HD.out _).mono ?_; rintro e w6 ⟨rfl, hb6⟩; have HB6 := Lib.hid (show Below w.heap.size w w6 from (Below.refl _ w).drew.trans hb6); clear hb6)
      | (go_at_call 140; refine (HW.out _ HB6.out).mono ?_; rintro e w7 ⟨v7, rfl, hr7⟩; have HR7 := Lib.hid (LsPost.ok HB6.out hr7); clear hr7))
    all_goals
      go_wp2
      go_ret2
      rw [HT1.out] at HR7
      exact HR7.out
  · rw [h2, h3]
    rw [h1] at HP
    rw [h0] at HS
    clear h1 h2 h3 h0 HT HF HU
    rw [HAL.out]
    generalize NM.pN S.data.toList = z at *
    go_enter Tryz.func103, Tryz.ntmps103
    go_wp2_with (first | (go_at_call 139; refine (HI.out _).mono ?_; rintro e w1 ⟨rfl, rfl⟩) | (go_at_call 138; refine (HP.out _).mono ?_; rintro e w4 ⟨rfl, rfl⟩) | (go_at_call 97; refine (HS.out _).mono ?_; rintro e w2 ⟨rfl, rfl⟩))
    go_ret2
    exact ⟨_, rfl, ⟨_, _, _, rfl⟩, Below.refl _ _, fun _ => HV.out⟩
  · rw [h2]
    rw [h1] at HP
    rw [h0] at HS
    rw [h4] at HF
    clear h1 h2 h4 h0 HT HU
    generalize NM.pN S.data.toList = z at *
    go_enter Tryz.func103, Tryz.ntmps103
    go_wp2_with (first | (go_at_call 139; refine (HI.out _).mono ?_; rintro e w1 ⟨rfl, rfl⟩) | (go_at_call 138; refine (HP.out _).mono ?_; rintro e w4 ⟨rfl, rfl⟩) | (go_at_call 97; refine (HS.out _).mono ?_; rintro e w2 ⟨rfl, rfl⟩) | (go_at_call 28; refine HF.out.mono ?_; rintro e w3 ⟨rfl, rfl⟩))
    go_ret2
    exact LsPost.bad (by decide) (Below.refl _ _)
  · rw [h1] at HP
    rw [h0] at HS
    rw [h4] at HF
    have hu : u < 4294967296 := by have := HU.out; rw [h4] at this; exact this
    have hw1 : (at' : Int) % 4294967296 = at' := by omega
    clear h1 h4 h0 HU
    generalize NM.pN S.data.toList = z0 at *
    by_cases hd : f = 4 ∨ op = 49
    · have hd' : op = 49 ∨ IM.fm op = 4 := hd.elim (fun h => .inr (HFM.out ▸ h)) .inl
      obtain ⟨h6, h7⟩ := h5.1 hd'
      rw [h6, h7]
      clear h5 hd' h6 h7
      have HDV := Lib.hid hd
      have hbd : (f == 4) = true ∨ (f == 4) = false ∧ (op == 49) = true := by
        by_cases h : f = 4
        · exact .inl (by simp [h])
        · exact .inr ⟨by simp [h], by simp [hd.resolve_left h]⟩
      clear hd
      have hb1x : wrap64 (wrap32 (((u : Int) - at') % 4294967296)) = AS.sgV ((u : Int) - at') := by unfold wrap64 wrap32 AS.sgV; omega
      have hz4 : AS.sgV ((u : Int) - at') % 4 = ((u : Int) - at') % 4 := by unfold AS.sgV; omega
      have hbz := AS.sgV_bd ((u : Int) - at')
      obtain ⟨z, hzv⟩ : ∃ z, AS.sgV ((u : Int) - at') = z := ⟨_, rfl⟩
      rw [hzv] at hb1x hz4 hbz
      rw [hzv]
      by_cases h4 : ((u : Int) - at') % 4 = 0
      · rw [if_pos h4]
        obtain ⟨y, hy⟩ : ∃ y, z = 4 * y := ⟨z / 4, by omega⟩
        subst hy
        have hm1 : ((4 * y).tmod 4 == 0) = true := by rw [Int.mul_tmod_right]; rfl
        have hm2 : ((4 * y).tmod 4 != 0) = false := by rw [Int.mul_tmod_right]; rfl
        have hm3 : (4 * y).tmod 4 = 0 := Int.mul_tmod_right _ _
        have hq1 : (4 * y).tdiv 4 = y := Int.mul_tdiv_cancel_left _ (by decide)
        have hq2 : wrap64 y = y := by unfold wrap64; omega
        rw [show (4 * y) / 4 = y from Int.mul_ediv_cancel_left _ (by decide)]
        obtain ⟨T, hT, hT1, hT2⟩ := bt_of (Lib.itoa y)
        have HD := Lib.hid (fun W => S02.rdec_any y W (by omega) (by omega))
        rw [hT] at HD
        have HW := Lib.hid (fun (W : World) (hb : Below w.heap.size w W) => rwith_any T (HT.out.on hb) HTL.out)
        have HT1 := Lib.hid hT1
        clear hT hT1 hT2 hbz hz4 h4 hzv
        rcases hbd with hb1 | ⟨hb1, hb2⟩
        all_goals
          go_enter Tryz.func103, Tryz.ntmps103
          go_upto_region 28 with (first | (go_at_call 139; refine (HI.out _).mono ?_; rintro e w1 ⟨rfl, rfl⟩) | (go_at_call 138; refine (HP.out _).mono ?_; rintro e w4 ⟨rfl, rfl⟩) | (go_at_call 97; refine (HS.out _).mono ?_; rintro e w2 ⟨rfl, rfl⟩) | (go_at_call 28; refine HF.out.mono ?_; rintro e w3 ⟨rfl, rfl⟩))
          go_region_with (first
            | (go_at_call 111; refine (HD.out _).mono ?_; rintro e w6 ⟨rfl, hb6⟩; have HB6 := Lib.hid (show Below w.heap.size w w6 from (Below.refl _ w).drew.trans hb6); clear hb6)
            | (go_at_call 140; refine (HW.out _ HB6.out).mono ?_; rintro e w7 ⟨v7, rfl, hr7⟩; have HR7 := Lib.hid (LsPost.ok HB6.out hr7); clear hr7))
          all_goals
            go_wp2
            go_ret2
            rw [HT1.out] at HR7
            exact HR7.out
      · rw [if_neg h4]
        have hm0 : ¬ z.tmod 4 = 0 := fun h => h4 (by have := Int.dvd_of_tmod_eq_zero h; omega)
        have hm1 : (z.tmod 4 == 0) = false := by simp [hm0]
        have hm2 : (z.tmod 4 != 0) = true := by simp [hm0]
        clear hbz hz4 h4 hm0 hzv
        rcases hbd with hb1 | ⟨hb1, hb2⟩
        all_goals
          go_enter Tryz.func103, Tryz.ntmps103
          go_wp2_with (first | (go_at_call 139; refine (HI.out _).mono ?_; rintro e w1 ⟨rfl, rfl⟩) | (go_at_call 138; refine (HP.out _).mono ?_; rintro e w4 ⟨rfl, rfl⟩) | (go_at_call 97; refine (HS.out _).mono ?_; rintro e w2 ⟨rfl, rfl⟩) | (go_at_call 28; refine HF.out.mono ?_; rintro e w3 ⟨rfl, rfl⟩))
          go_ret2
          exact LsPost.bad (by decide) (Below.refl _ _)
    · have hd' : ¬ (op = 49 ∨ IM.fm op = 4) := fun h => hd (h.elim .inr fun h => .inl (HFM.out.trans h))
      obtain ⟨h6, h7⟩ := h5.2 hd'
      rw [h6, h7]
      have hb1 : (f == 4) = false := by simp; exact fun h => hd (.inl h)
      have hb2 : (op == 49) = false := by simp; exact fun h => hd (.inr h)
      clear h5 hd' h6 h7 hd
      have hb1x : wrap64 (wrap32 (u : Int)) = AS.sgV (u : Int) := by unfold wrap64 wrap32 AS.sgV; omega
      have hbz := AS.sgV_bd (u : Int)
      obtain ⟨y, hzv⟩ : ∃ z, AS.sgV (u : Int) = z := ⟨_, rfl⟩
      rw [hzv] at hb1x hbz
      rw [hzv]
      obtain ⟨T, hT, hT1, hT2⟩ := bt_of (Lib.itoa y)
      have HD := Lib.hid (fun W => S02.rdec_any y W (Int.le_trans (by decide) hbz.1) (Int.le_trans hbz.2 (by decide)))
      rw [hT] at HD
      have HW := Lib.hid (fun (W : World) (hb : Below w.heap.size w W) => rwith_any T (HT.out.on hb) HTL.out)
      have HT1 := Lib.hid hT1
      clear hT hT1 hT2 hbz hzv
      go_enter Tryz.func103, Tryz.ntmps103
      go_upto_region 28 with (first | (go_at_call 139; refine (HI.out _).mono ?_; rintro e w1 ⟨rfl, rfl⟩) | (go_at_call 138; refine (HP.out _).mono ?_; rintro e w4 ⟨rfl, rfl⟩) | (go_at_call 97; refine (HS.out _).mono ?_; rintro e w2 ⟨rfl, rfl⟩) | (go_at_call 28; refine HF.out.mono ?_; rintro e w3 ⟨rfl, rfl⟩))
      go_region_with (first
        | (go_at_call 111; refine (HD.out _).mono ?_; rintro e w6 ⟨rfl, hb6⟩; have HB6 := Lib.hid (show Below w.heap.size w w6 from (Below.refl _ w).drew.trans hb6); clear hb6)
        | (go_at_call 140; refine (HW.out _ HB6.out).mono ?_; rintro e w7 ⟨v7, rfl, hr7⟩; have HR7 := Lib.hid (LsPost.ok HB6.out hr7); clear hr7))
      all_goals
        go_wp2
        go_ret2
        rw [HT1.out] at HR7
        exact HR7.out

end Go.Proofs.YtcnmnkgnaknpdaaGreatDoor
/-! RfNb -/
namespace Go.Proofs.YtcnmnkgnaknpdaaGreatDoor
open Go.RowKit Go.Maps S02 S06 S07
set_option maxHeartbeats 4000000 in
theorem rlast_two {w : World} {nv : Value} {ns : List (List UInt8 × Nat)} {l : List (List UInt8)} (op f : Int) (at' g o c k : Nat) (S R : ByteArray) (hn : NmR w nv ns) (hnl : ns.length ≤ 1000000) (hu : ∀ p ∈ ns, p.2 < 4294967296) (ha : at' ≤ 16384) (hfm : f = IM.fm op) (hl : l.length = k + 2) (hv : TxR w (.slice (some ⟨g, o, none⟩) (k + 2) c) l) (hk : k ≤ 900000) (hf : AS.hasI f = true)
    (hS : S.data.toList = l.getD (k + 1) []) (hz : S.size ≤ 1000000) (hR : R.data.toList = l.getD k []) (hh : ¬ R.data.toList = [104, 105] ∧ ¬ R.data.toList = [108, 111]) :
    Calls Tryz.prog 103 #[nv, .int .i64 op, .int .i64 f, .int .i64 at', .slice (some ⟨g, o, none⟩) (k + 2) c] w (LsPost w (AS.imE ns at' op [] S.data.toList) (l.take (k + 1) ++ [AS.imT ns at' op [] S.data.toList])) := by
  have HI := Lib.hid (fun W => rimm_any f W)
  rw [hf] at HI
  have HS := Lib.hid (fun W => risName_any S W hz)
  have HP := Lib.hid (fun W => S02.rparse_any S W (by omega))
  have HF := Lib.hid (rfind_any S hn hnl)
  have HU := Lib.hid (AS.fnd_bd hu S.data.toList)
  have HT := Lib.hid (hv.take (t := k + 1) hl (by omega))
  have g1 := hv.cellOf (by intro e; rw [e] at hl; simp at hl) (k + 1) (by omega)
  replace g1 : w.cell? ⟨g, o + (k + 1), none⟩ = some (.string S) := by rw [g1, ← hS]; rfl
  have g2 := hv.cellOf (by intro e; rw [e] at hl; simp at hl) k (by omega)
  replace g2 : w.cell? ⟨g, o + k, none⟩ = some (.string R) := by rw [g2, ← hR]; rfl
  have r1 : ¬ R.toList = [104, 105] := by rw [ByteArray.toList_eq]; exact hh.1
  have r2 : ¬ R.toList = [108, 111] := by rw [ByteArray.toList_eq]; exact hh.2
  have r1' : (R.toList == [104, 105]) = false := by simpa using r1
  have r2' : (R.toList == [108, 111]) = false := by simpa using r2
  clear hR hh
  obtain ⟨hc, hcm⟩ : k + 2 ≤ c ∧ c ≤ 9223372036854775807 := hv.caps hl (by omega)
  have hw : IntKind.i64.wrap ((k : Int) + 1) = (k : Int) + 1 := by rw [IntKind.wrap_i64]; omega
  have hw2 : IntKind.i64.wrap ((k : Int) + 2 - 1) = (k : Int) + 1 := by rw [IntKind.wrap_i64]; omega
  have hkc : (k : Int) + 1 ≤ c := by omega
  have hk0 : 0 ≤ (k : Int) + 1 := by omega
  have hkn : ((k : Int) + 1).toNat = k + 1 := by omega
  have HFM := Lib.hid hfm
  have HTL := Lib.hid (show (l.take (k + 1)).length ≤ 1000000 by rw [List.length_take]; omega)
  have HAL := Lib.hid (show l.take (k + 1) ++ [S.data.toList] = l from take_last hl hS)
  have HV := Lib.hid hv
  clear hn hnl hu hl hv hS hz hf hfm
  rcases AS.im_cases ns at' op S.data.toList with ⟨h1, h2⟩ | ⟨h1, h2, h3⟩ | ⟨h1, h0, h2, h3⟩ | ⟨h1, h0, h4, h2⟩ | ⟨u, h1, h0, h4, h5⟩
  · rw [h2]
    rw [h1] at HP
    clear h1 h2 HT HF HU
    generalize NM.pN S.data.toList = z at *
    go_enter Tryz.func103, Tryz.ntmps103
    go_wp2_with (first | (go_at_call 139; refine (HI.out _).mono ?_; rintro e w1 ⟨rfl, rfl⟩) | (go_at_call 138; refine (HP.out _).mono ?_; rintro e w4 ⟨rfl, rfl⟩))
    go_ret2
    exact LsPost.bad (by decide) (Below.refl _ _)
  · rw [h2, h3]
    rw [h1] at HP
    have hbz := AS.pN_bd S.data.toList
    clear h1 h2 h3 HF HU
    generalize NM.pN S.data.toList = z at *
    obtain ⟨T, hT, hT1, hT2⟩ := bt_of (Lib.itoa z)
    have HD := Lib.hid (fun W => S02.rdec_any z W (by omega) (by omega))
    rw [hT] at HD
    have HW := Lib.hid (fun (W : World) (hb : Below w.heap.size w W) => rwith_any T (HT.out.on hb) HTL.out)
    have HT1 := Lib.hid hT1
    clear hT hT1 hT2 hbz
    go_enter Tryz.func103, Tryz.ntmps103
    go_upto_region 16 with (first | (go_at_call 139; refine (HI.out _).mono ?_; rintro e w1 ⟨rfl, rfl⟩) | (go_at_call 138; refine (HP.out _).mono ?_; rintro e w4 ⟨rfl, rfl⟩))
    go_region_with (first
      | (go_at_call 111; refine (HD.out _).mono ?_; rintro e w6 ⟨rfl, hb6⟩; have HB6 := Lib.hid (show Below w.heap.size w w6 from (Below.refl _ w).drew.trans hb6); clear hb6)
      | (go_at_call 140; refine (HW.out _ HB6.out).mono ?_; rintro e w7 ⟨v7, rfl, hr7⟩; have HR7 := Lib.hid (LsPost.ok HB6.out hr7); clear hr7))
    all_goals
      go_wp2
      go_ret2
      rw [HT1.out] at HR7
      exact HR7.out
  · rw [h2, h3]
    rw [h1] at HP
    rw [h0] at HS
    clear h1 h2 h3 h0 HT HF HU
    rw [HAL.out]
    generalize NM.pN S.data.toList = z at *
    go_enter Tryz.func103, Tryz.ntmps103
    go_wp2_with (first | (go_at_call 139; refine (HI.out _).mono ?_; rintro e w1 ⟨rfl, rfl⟩) | (go_at_call 138; refine (HP.out _).mono ?_; rintro e w4 ⟨rfl, rfl⟩) | (go_at_call 97; refine (HS.out _).mono ?_; rintro e w2 ⟨rfl, rfl⟩))
    go_ret2
    exact ⟨_, rfl, ⟨_, _, _, rfl⟩, Below.refl _ _, fun _ => HV.out⟩
  · rw [h2]
    rw [h1] at HP
    rw [h0] at HS
    rw [h4] at HF
    clear h1 h2 h4 h0 HT HU
    generalize NM.pN S.data.toList = z at *
    go_enter Tryz.func103, Tryz.ntmps103
    go_wp2_with (first | (go_at_call 139; refine (HI.out _).mono ?_; rintro e w1 ⟨rfl, rfl⟩) | (go_at_call 138; refine (HP.out _).mono ?_; rintro e w4 ⟨rfl, rfl⟩) | (go_at_call 97; refine (HS.out _).mono ?_; rintro e w2 ⟨rfl, rfl⟩) | (go_at_call 28; refine HF.out.mono ?_; rintro e w3 ⟨rfl, rfl⟩))
    go_ret2
    exact LsPost.bad (by decide) (Below.refl _ _)
  · rw [h1] at HP
    rw [h0] at HS
    rw [h4] at HF
    have hu : u < 4294967296 := by have := HU.out; rw [h4] at this; exact this
    have hw1 : (at' : Int) % 4294967296 = at' := by omega
    clear h1 h4 h0 HU
    generalize NM.pN S.data.toList = z0 at *
    by_cases hd : f = 4 ∨ op = 49
    · have hd' : op = 49 ∨ IM.fm op = 4 := hd.elim (fun h => .inr (HFM.out ▸ h)) .inl
      obtain ⟨h6, h7⟩ := h5.1 hd'
      rw [h6, h7]
      clear h5 hd' h6 h7
      have HDV := Lib.hid hd
      have hbd : (f == 4) = true ∨ (f == 4) = false ∧ (op == 49) = true := by
        by_cases h : f = 4
        · exact .inl (by simp [h])
        · exact .inr ⟨by simp [h], by simp [hd.resolve_left h]⟩
      clear hd
      have hb1x : wrap64 (wrap32 (((u : Int) - at') % 4294967296)) = AS.sgV ((u : Int) - at') := by unfold wrap64 wrap32 AS.sgV; omega
      have hz4 : AS.sgV ((u : Int) - at') % 4 = ((u : Int) - at') % 4 := by unfold AS.sgV; omega
      have hbz := AS.sgV_bd ((u : Int) - at')
      obtain ⟨z, hzv⟩ : ∃ z, AS.sgV ((u : Int) - at') = z := ⟨_, rfl⟩
      rw [hzv] at hb1x hz4 hbz
      rw [hzv]
      by_cases h4 : ((u : Int) - at') % 4 = 0
      · rw [if_pos h4]
        obtain ⟨y, hy⟩ : ∃ y, z = 4 * y := ⟨z / 4, by omega⟩
        subst hy
        have hm1 : ((4 * y).tmod 4 == 0) = true := by rw [Int.mul_tmod_right]; rfl
        have hm2 : ((4 * y).tmod 4 != 0) = false := by rw [Int.mul_tmod_right]; rfl
        have hm3 : (4 * y).tmod 4 = 0 := Int.mul_tmod_right _ _
        have hq1 : (4 * y).tdiv 4 = y := Int.mul_tdiv_cancel_left _ (by decide)
        have hq2 : wrap64 y = y := by unfold wrap64; omega
        rw [show (4 * y) / 4 = y from Int.mul_ediv_cancel_left _ (by decide)]
        obtain ⟨T, hT, hT1, hT2⟩ := bt_of (Lib.itoa y)
        have HD := Lib.hid (fun W => S02.rdec_any y W (by omega) (by omega))
        rw [hT] at HD
        have HW := Lib.hid (fun (W : World) (hb : Below w.heap.size w W) => rwith_any T (HT.out.on hb) HTL.out)
        have HT1 := Lib.hid hT1
        clear hT hT1 hT2 hbz hz4 h4 hzv
        rcases hbd with hb1 | ⟨hb1, hb2⟩
        all_goals
          go_enter Tryz.func103, Tryz.ntmps103
          go_upto_region 28 with (first | (go_at_call 139; refine (HI.out _).mono ?_; rintro e w1 ⟨rfl, rfl⟩) | (go_at_call 138; refine (HP.out _).mono ?_; rintro e w4 ⟨rfl, rfl⟩) | (go_at_call 97; refine (HS.out _).mono ?_; rintro e w2 ⟨rfl, rfl⟩) | (go_at_call 28; refine HF.out.mono ?_; rintro e w3 ⟨rfl, rfl⟩))
          go_region_with (first
            | (go_at_call 111; refine (HD.out _).mono ?_; rintro e w6 ⟨rfl, hb6⟩; have HB6 := Lib.hid (show Below w.heap.size w w6 from (Below.refl _ w).drew.trans hb6); clear hb6)
            | (go_at_call 140; refine (HW.out _ HB6.out).mono ?_; rintro e w7 ⟨v7, rfl, hr7⟩; have HR7 := Lib.hid (LsPost.ok HB6.out hr7); clear hr7))
          all_goals
            go_wp2
            go_ret2
            rw [HT1.out] at HR7
            exact HR7.out
      · rw [if_neg h4]
        have hm0 : ¬ z.tmod 4 = 0 := fun h => h4 (by have := Int.dvd_of_tmod_eq_zero h; omega)
        have hm1 : (z.tmod 4 == 0) = false := by simp [hm0]
        have hm2 : (z.tmod 4 != 0) = true := by simp [hm0]
        clear hbz hz4 h4 hm0 hzv
        rcases hbd with hb1 | ⟨hb1, hb2⟩
        all_goals
          go_enter Tryz.func103, Tryz.ntmps103
          go_wp2_with (first | (go_at_call 139; refine (HI.out _).mono ?_; rintro e w1 ⟨rfl, rfl⟩) | (go_at_call 138; refine (HP.out _).mono ?_; rintro e w4 ⟨rfl, rfl⟩) | (go_at_call 97; refine (HS.out _).mono ?_; rintro e w2 ⟨rfl, rfl⟩) | (go_at_call 28; refine HF.out.mono ?_; rintro e w3 ⟨rfl, rfl⟩))
          go_ret2
          exact LsPost.bad (by decide) (Below.refl _ _)
    · have hd' : ¬ (op = 49 ∨ IM.fm op = 4) := fun h => hd (h.elim .inr fun h => .inl (HFM.out.trans h))
      obtain ⟨h6, h7⟩ := h5.2 hd'
      rw [h6, h7]
      have hb1 : (f == 4) = false := by simp; exact fun h => hd (.inl h)
      have hb2 : (op == 49) = false := by simp; exact fun h => hd (.inr h)
      clear h5 hd' h6 h7 hd
      have hb1x : wrap64 (wrap32 (u : Int)) = AS.sgV (u : Int) := by unfold wrap64 wrap32 AS.sgV; omega
      have hbz := AS.sgV_bd (u : Int)
      obtain ⟨y, hzv⟩ : ∃ z, AS.sgV (u : Int) = z := ⟨_, rfl⟩
      rw [hzv] at hb1x hbz
      rw [hzv]
      obtain ⟨T, hT, hT1, hT2⟩ := bt_of (Lib.itoa y)
      have HD := Lib.hid (fun W => S02.rdec_any y W (Int.le_trans (by decide) hbz.1) (Int.le_trans hbz.2 (by decide)))
      rw [hT] at HD
      have HW := Lib.hid (fun (W : World) (hb : Below w.heap.size w W) => rwith_any T (HT.out.on hb) HTL.out)
      have HT1 := Lib.hid hT1
      clear hT hT1 hT2 hbz hzv
      go_enter Tryz.func103, Tryz.ntmps103
      go_upto_region 28 with (first | (go_at_call 139; refine (HI.out _).mono ?_; rintro e w1 ⟨rfl, rfl⟩) | (go_at_call 138; refine (HP.out _).mono ?_; rintro e w4 ⟨rfl, rfl⟩) | (go_at_call 97; refine (HS.out _).mono ?_; rintro e w2 ⟨rfl, rfl⟩) | (go_at_call 28; refine HF.out.mono ?_; rintro e w3 ⟨rfl, rfl⟩))
      go_region_with (first
        | (go_at_call 111; refine (HD.out _).mono ?_; rintro e w6 ⟨rfl, hb6⟩; have HB6 := Lib.hid (show Below w.heap.size w w6 from (Below.refl _ w).drew.trans hb6); clear hb6)
        | (go_at_call 140; refine (HW.out _ HB6.out).mono ?_; rintro e w7 ⟨v7, rfl, hr7⟩; have HR7 := Lib.hid (LsPost.ok HB6.out hr7); clear hr7))
      all_goals
        go_wp2
        go_ret2
        rw [HT1.out] at HR7
        exact HR7.out

end Go.Proofs.YtcnmnkgnaknpdaaGreatDoor
/-! RfO -/
namespace Go.Proofs.YtcnmnkgnaknpdaaGreatDoor
open Go.RowKit Go.Maps S02 S06 S07
theorem rlast_any {w : World} {nv lv : Value} {ns : List (List UInt8 × Nat)} {l : List (List UInt8)} (op : Int) (at' : Nat) (hn : NmR w nv ns) (hnl : ns.length ≤ 1000000) (hu : ∀ p ∈ ns, p.2 < 4294967296) (ha : at' ≤ 16384) (hv : TxR w lv l) (hk : l.length ≤ 900000) (hz : ∀ y ∈ l, y.length ≤ 1000000) :
    Calls Tryz.prog 103 #[nv, .int .i64 op, .int .i64 (IM.fm op), .int .i64 at', lv] w (LsPost w (AS.rsE ns at' op l) (AS.rsL ns at' op l)) := by
  by_cases hc : l = [] ∨ AS.hasI (IM.fm op) = false
  · have e1 : AS.rsE ns at' op l = 0 := if_pos hc
    have e2 : AS.rsL ns at' op l = l := if_pos hc
    rw [e1, e2]
    exact rlast_none op at' (IM.fm op) hv hc (by omega)
  · have hi : AS.hasI (IM.fm op) = true := by cases h : AS.hasI (IM.fm op) with | true => rfl | false => exact absurd (.inr h) hc
    have h0 : l ≠ [] := fun h => hc (.inl h)
    have hd : ∀ i, i < l.length → (⟨(l.getD i []).toArray⟩ : ByteArray).size ≤ 1000000 := fun i h => by
      show (l.getD i []).toArray.size ≤ _
      rw [List.size_toArray, List.getD_eq_getElem?_getD, List.getElem?_eq_getElem h]
      exact hz _ (List.getElem_mem h)
    have hne : l.length ≠ 0 := fun e => h0 (List.length_eq_zero_iff.mp e)
    obtain ⟨g, o, c, rfl⟩ := txr_form hv h0
    by_cases h1 : l.length = 1
    · have e1 : AS.rsE ns at' op l = AS.imE ns at' op [] (l.getD 0 []) := by unfold AS.rsE; rw [if_neg hc, if_neg (by omega), h1]
      have e2 : AS.rsL ns at' op l = [] ++ [AS.imT ns at' op [] (l.getD 0 [])] := by unfold AS.rsL; rw [if_neg hc, if_neg (by omega), h1]; rfl
      rw [e1, e2]
      have hv' : TxR w (.slice (some ⟨g, o, none⟩) 1 c) l := by rw [← h1]; exact hv
      rw [h1]
      exact rlast_one op (IM.fm op) at' g o c ⟨(l.getD 0 []).toArray⟩ hn hnl hu ha rfl h1 hv' hi rfl (hd 0 (by omega))
    · obtain ⟨k, hl⟩ : ∃ k, l.length = k + 2 := ⟨l.length - 2, by omega⟩
      have t1 : l.length - 2 = k := by omega
      have t2 : l.length - 1 = k + 1 := by omega
      have hv' : TxR w (.slice (some ⟨g, o, none⟩) (k + 2) c) l := by rw [← hl]; exact hv
      have hlk : ∀ {S : ByteArray} {p : List UInt8}, ¬ p = [] → AS.imE ns at' op p S.data.toList = AS.lkE ns S.data.toList := fun {S p} hp => by
        unfold AS.imE
        rw [if_neg (fun h => hp h.1)]
        split
        · rename_i h
          rw [if_neg (fun h => hp h.1), h]
        · rfl
      by_cases hh : l.getD k [] = [104, 105]
      · have e1 : AS.rsE ns at' op l = AS.imE ns at' op [104, 105] (l.getD (k + 1) []) := by unfold AS.rsE; rw [if_neg hc, t1, t2, if_pos ⟨by omega, .inl hh⟩, hh]
        have e2 : AS.rsL ns at' op l = l.take k ++ [AS.imT ns at' op [104, 105] (l.getD (k + 1) [])] := by unfold AS.rsL; rw [if_neg hc, t1, t2, if_pos ⟨by omega, .inl hh⟩, hh]
        rw [e1, e2, hl]
        have := rlast_hi op at' (IM.fm op) g o c k ⟨(l.getD (k + 1) []).toArray⟩ ⟨(l.getD k []).toArray⟩ hn hnl hu hl hv' (by omega) hi rfl (hd _ (by omega)) rfl hh
        rw [← hlk (p := [104, 105]) (by decide)] at this
        rw [show AS.imT ns at' op [104, 105] (l.getD (k + 1) []) = Lib.itoa (AS.hiV (AS.lkN ns (l.getD (k + 1) []))) from rfl]
        exact this
      · by_cases hg : l.getD k [] = [108, 111]
        · have e1 : AS.rsE ns at' op l = AS.imE ns at' op [108, 111] (l.getD (k + 1) []) := by unfold AS.rsE; rw [if_neg hc, t1, t2, if_pos ⟨by omega, .inr hg⟩, hg]
          have e2 : AS.rsL ns at' op l = l.take k ++ [AS.imT ns at' op [108, 111] (l.getD (k + 1) [])] := by unfold AS.rsL; rw [if_neg hc, t1, t2, if_pos ⟨by omega, .inr hg⟩, hg]
          rw [e1, e2, hl]
          have := rlast_lo op at' (IM.fm op) g o c k ⟨(l.getD (k + 1) []).toArray⟩ ⟨(l.getD k []).toArray⟩ hn hnl hu hl hv' (by omega) hi rfl (hd _ (by omega)) rfl hg
          rw [← hlk (p := [108, 111]) (by decide)] at this
          rw [show AS.imT ns at' op [108, 111] (l.getD (k + 1) []) = Lib.itoa (AS.loV (AS.lkN ns (l.getD (k + 1) []))) from rfl]
          exact this
        · have e1 : AS.rsE ns at' op l = AS.imE ns at' op [] (l.getD (k + 1) []) := by unfold AS.rsE; rw [if_neg hc, t1, t2, if_neg (by rintro ⟨_, h | h⟩; exact hh h; exact hg h)]
          have e2 : AS.rsL ns at' op l = l.take (k + 1) ++ [AS.imT ns at' op [] (l.getD (k + 1) [])] := by unfold AS.rsL; rw [if_neg hc, t1, t2, if_neg (by rintro ⟨_, h | h⟩; exact hh h; exact hg h)]
          rw [e1, e2, hl]
          exact rlast_two op (IM.fm op) at' g o c k ⟨(l.getD (k + 1) []).toArray⟩ ⟨(l.getD k []).toArray⟩ hn hnl hu ha rfl hl hv' (by omega) hi rfl (hd _ (by omega)) rfl ⟨hh, hg⟩
namespace AS
theorem tail_snoc (sep : List UInt8) : ∀ (r : List (List UInt8)) (x : List UInt8), Lib.joinTail sep (r ++ [x]) = Lib.joinTail sep r ++ (sep ++ x)
  | [], x => by simp [Lib.joinTail]
  | t :: r, x => by
    have ih := tail_snoc sep r x
    rw [List.cons_append, show Lib.joinTail sep (t :: (r ++ [x])) = (sep ++ t) ++ Lib.joinTail sep (r ++ [x]) by simp [Lib.joinTail], show Lib.joinTail sep (t :: r) = (sep ++ t) ++ Lib.joinTail sep r by simp [Lib.joinTail], ih]
    simp only [List.append_assoc]
theorem join_snoc (sep x : List UInt8) {r : List (List UInt8)} (h : r ≠ []) : Lib.join (r ++ [x]) sep = Lib.join r sep ++ (sep ++ x) := by
  cases r with
  | nil => exact absurd rfl h
  | cons t r => rw [List.cons_append, Lib.join_cons, Lib.join_cons, tail_snoc, List.append_assoc]
theorem txt_0 (d : List UInt8) (L : List (List UInt8)) : txt d (L.take 0) = d := rfl
theorem txt_1 (d : List UInt8) {L : List (List UInt8)} (h : 0 < L.length) : txt d (L.take (0 + 1)) = (d ++ [32]) ++ L.getD 0 [] := by
  cases L with
  | nil => simp at h
  | cons x r =>
    rw [Nat.zero_add, List.take_succ_cons, List.take_zero]
    unfold txt
    rw [if_neg (by simp), Lib.join_cons]
    simp [Lib.joinTail]
theorem txt_s (d : List UInt8) {L : List (List UInt8)} {k : Nat} (h0 : 0 < k) (h : k < L.length) : txt d (L.take (k + 1)) = (txt d (L.take k) ++ [44, 32]) ++ L.getD k [] := by
  have hne : L.take k ≠ [] := fun e => by
    have h1 : (L.take k).length = 0 := by rw [e]; rfl
    rw [List.length_take] at h1
    omega
  have hne2 : L.take k ++ [L[k]] ≠ [] := List.append_ne_nil_of_right_ne_nil _ (List.cons_ne_nil _ _)
  rw [List.take_succ_eq_append_getElem h]
  unfold txt
  rw [if_neg hne2, if_neg hne, join_snoc _ _ hne, List.getD_eq_getElem?_getD, List.getElem?_eq_getElem h]
  simp [List.append_assoc]
theorem txt_bd (d : List UInt8) (L : List (List UInt8)) : (txt d L).length ≤ d.length + 1 + tot L + 2 * L.length := by
  have h3 := join_len L [44, 32]
  simp only [List.length_cons, List.length_nil] at h3
  unfold txt
  split
  · omega
  · simp only [List.length_append, List.length_cons, List.length_nil]
    omega
theorem txt_take_bd (d : List UInt8) (L : List (List UInt8)) (k : Nat) : (txt d (L.take k)).length ≤ d.length + 1 + tot L + 2 * L.length := by
  have h1 := txt_bd d (L.take k)
  have h2 := tot_take L k
  have h3 : (L.take k).length ≤ L.length := by rw [List.length_take]; omega
  omega
end AS
theorem NM.cat_eq' {A B : ByteArray} {x y : List UInt8} (h1 : A.data.toList = x) (h2 : B.data.toList = y) : (A ++ B).data.toList = x ++ y := by rw [NM.data_app, h1, h2]
/-- A text and an error; the text is told where there is none. -/
def TtPost (w : World) (E : Int) (T : List UInt8) (e : Ending) (w' : World) : Prop := ∃ S : ByteArray, e = .returned (.tuple #[.string S, .int .i64 E]) ∧ Below w.heap.size w w' ∧ (E = 0 → S.data.toList = T)
set_option maxHeartbeats 1600000 in
theorem rtext_any {w : World} {nv wv : Value} {ns : List (List UInt8 × Nat)} {d : List UInt8} {r : List (List UInt8)} (at' : Nat) (hn : NmR w nv ns) (hnl : ns.length ≤ 1000000) (hu : ∀ p ∈ ns, p.2 < 4294967296) (ha : at' ≤ 16384) (hv : TxR w wv (d :: r)) (hb : (d :: r).length + AS.tot (d :: r) ≤ 70000) :
    Calls Tryz.prog 55 #[nv, .int .i64 at', wv] w (TtPost w (if TX.oo d = 0 then 9 else AS.rsE ns at' (TX.oo d) r) (AS.txt d (AS.rsL ns at' (TX.oo d) r))) := by
  obtain ⟨g, o, c, rfl⟩ := txr_form hv (by simp)
  obtain ⟨m, hm⟩ : ∃ m, r.length = m := ⟨_, rfl⟩
  have hln : (d :: r).length = m + 1 := by rw [List.length_cons, hm]
  rw [hln] at hv ⊢
  obtain ⟨hc, hcm⟩ := hv.caps hln (by omega)
  rw [List.length_cons, AS.tot_cons] at hb
  obtain ⟨S, hS, hS1, hS2⟩ := bt_of d
  have g0 := hv.cellOf (by simp) 0 (by simp)
  replace g0 : w.cell? ⟨g, o, none⟩ = some (.string S) := by rw [Nat.add_zero] at g0; rw [g0, ← hS]; rfl
  have HOp := Lib.hid (fun W => S07.rop_any S W)
  rw [hS1] at HOp
  have HS1 := Lib.hid hS1
  have hm1 : m ≤ 70000 := by omega
  have HTail := Lib.hid (show ∃ o', TxR w (.slice (some ⟨g, o', none⟩) m (c - 1)) r ∧ (c = 1 ∧ m = 0 ∧ o' = o ∨ ¬ c = 1 ∧ o' = o + 1) from by
    by_cases e : c = 1
    · have : r = [] := List.eq_nil_of_length_eq_zero (by omega)
      subst this
      have : m = 0 := by rw [← hm]; rfl
      subst this
      exact ⟨o, .inl ⟨rfl, _, _, rfl⟩, .inl ⟨e, rfl, rfl⟩⟩
    · exact ⟨o + 1, hm ▸ hv.tail, .inr ⟨e, rfl⟩⟩)
  by_cases h0 : TX.oo d = 0
  · rw [h0] at HOp ⊢
    rw [if_pos rfl]
    clear h0 hn hnl hu hv hb hS hS1 hS2 HTail
    go_enter Tryz.func55, Tryz.ntmps55
    go_wp2_with (go_at_call 102; refine (HOp.out _).mono ?_; rintro e w1 ⟨rfl, hb1⟩)
    go_ret2
    exact ⟨_, rfl, hb1, fun h => by cases h⟩
  · obtain ⟨op, hop⟩ : ∃ op, TX.oo d = op := ⟨_, rfl⟩
    rw [if_neg h0]
    rw [hop] at HOp h0 ⊢
    have h0' : (op == 0) = false := by simp [h0]
    have HFm := Lib.hid (fun W => S06.rform_any op W)
    have HBD := Lib.hid (AS.rsL_len hu at' op r)
    have hmem : ∀ y ∈ r, y.length ≤ 1000000 := fun y hy => by have := AS.tot_mem hy; omega
    have HLast := Lib.hid (fun (W : World) (lv : Value) (hb : Below w.heap.size w W) (hlv : TxR w lv r) => rlast_any op at' (hn.below hb) hnl hu ha (hlv.on hb) (by omega) hmem)
    obtain ⟨E, hE⟩ : ∃ E, AS.rsE ns at' op r = E := ⟨_, rfl⟩
    obtain ⟨L, hL⟩ : ∃ L, AS.rsL ns at' op r = L := ⟨_, rfl⟩
    rw [hL] at HBD
    rw [hE, hL] at HLast ⊢
    have HDB := Lib.hid (show d.length + 1 + AS.tot L + 2 * L.length ≤ 300000 by have := HBD.out; omega)
    clear h0 hn hnl hu hv hb hS hS2 HBD hmem hop hE hL hS1 hm hln
    obtain ⟨o', htl, hc1⟩ := HTail.out
    have HTL := Lib.hid htl
    clear HTail htl hcm
    by_cases hE0 : E = 0
    · subst hE0
      rcases hc1 with ⟨rfl, rfl, rfl⟩ | ⟨hc1, rfl⟩
      all_goals
        go_enter Tryz.func55, Tryz.ntmps55
        go_upto_region 4 with (go_at_call 102; refine (HOp.out _).mono ?_; rintro e w1 ⟨rfl, hb1⟩; have HB1 := Lib.hid hb1; clear hb1)
        go_region_with (first
          | (go_at_call 61; refine (HFm.out _).mono ?_; rintro e w2 ⟨rfl, rfl⟩)
          | (go_at_call 103; refine (HLast.out _ _ HB1.out.drew HTL.out).mono ?_; rintro e w3 ⟨v3, rfl, ⟨a3, n3, c3, rfl⟩, hb3, hk3⟩; have HB3 := Lib.hid (HB1.out.drew.trans (hb3.mono HB1.out.drew.size)); have HK3 := Lib.hid (hk3 rfl); clear hb3 hk3))
      all_goals
        have HLn : L.length = n3 := by
          obtain ⟨a, c', e⟩ := txr_len HK3.out
          injection e with _ e2 _
          exact e2.symm
        have gc3 := cell_below HB3.out g0
        have hn3 : n3 ≤ 300000 := by have := HDB.out; omega
        have HLN := Lib.hid HLn
        clear HLn
        go_wp2
        go_loop [11, 12] (fun v i => ∃ (k : Nat) (X : ByteArray), k ≤ n3 ∧ i = .int .i64 k ∧ v = .string X ∧ (X.size : Int) ≤ 300000 ∧ Hid (X.data.toList = AS.txt d (L.take k))) (fun _ i => n3 - (intOf i).toNat)
        case atStart => exact ⟨0, S, by omega, rfl, rfl, by have := HDB.out; have h := NM.len_eq S; rw [HS1.out] at h; omega, Lib.hid (by rw [AS.txt_0]; exact HS1.out)⟩
        case round =>
          obtain ⟨k, X, hk, rfl, rfl, hX, HX⟩ := hrel
          by_cases hlt : (k : Int) < n3
          · have hkl : k < L.length := by rw [HLN.out]; omega
            have hne : L ≠ [] := by intro e; rw [e] at hkl; simp at hkl
            obtain ⟨g3, o3, c3', e⟩ := txr_form HK3.out hne
            injection e with e1 e2 e3
            subst e1 e3
            obtain ⟨T, hT, hT1, hT2⟩ := bt_of (L.getD k [])
            have t0 := HK3.out.cellOf hne k hkl
            replace t0 : w3.cell? ⟨g3, o3 + k, none⟩ = some (.string T) := by rw [t0, ← hT]; rfl
            have hTs : (T.size : Int) ≤ 300000 := by have h := AS.getD_tot L k; have := HDB.out; omega
            by_cases hk0 : (k : Int) = 0
            · have hk0' : ((k : Int) == 0) = true := by simp [hk0]
              have HY := Lib.hid (show (X ++ ⟨#[32]⟩ ++ T).data.toList = AS.txt d (L.take (k + 1)) by
                have e0 : k = 0 := by omega
                subst e0
                rw [AS.txt_1 d hkl]
                exact NM.cat_eq' (NM.cat_eq' (HX.out.trans (AS.txt_0 d L)) rfl) hT1)
              have HYS := Lib.hid (show ((X ++ ⟨#[32]⟩ ++ T).size : Int) ≤ 300000 by have h := NM.len_eq (X ++ ⟨#[32]⟩ ++ T); rw [HY.out] at h; have h2 := AS.txt_take_bd d L (k + 1); have := HDB.out; omega)
              clear hk0 hT hT1 hT2 hkl hne e2
              go_wp2
              go_round
              case rel => exact ⟨k + 1, _, by omega, by go_num, rfl, HYS.out, HY⟩
              case measure => simp [intOf]; omega
            · have hk0' : ((k : Int) == 0) = false := by simp; omega
              have HY := Lib.hid (show (X ++ ⟨#[44, 32]⟩ ++ T).data.toList = AS.txt d (L.take (k + 1)) by
                rw [AS.txt_s d (by omega) hkl]
                exact NM.cat_eq' (NM.cat_eq' HX.out rfl) hT1)
              have HYS := Lib.hid (show ((X ++ ⟨#[44, 32]⟩ ++ T).size : Int) ≤ 300000 by have h := NM.len_eq (X ++ ⟨#[44, 32]⟩ ++ T); rw [HY.out] at h; have h2 := AS.txt_take_bd d L (k + 1); have := HDB.out; omega)
              clear hk0 hT hT1 hT2 hkl hne e2
              go_wp2
              go_round
              case rel => exact ⟨k + 1, _, by omega, by go_num, rfl, HYS.out, HY⟩
              case measure => simp [intOf]; omega
          · obtain rfl : k = n3 := by omega
            have HF := Lib.hid (show X.data.toList = AS.txt d L by rw [HX.out, ← HLN.out, List.take_length])
            clear hlt
            go_wp2
            go_ret2
            exact ⟨_, rfl, HB3.out, fun _ => HF.out⟩
    · have hE1 : (E == 0) = false := by simp [hE0]
      have hE2 : (E != 0) = true := by simp [hE0]
      have HE := Lib.hid hE0
      clear hE0
      rcases hc1 with ⟨rfl, rfl, rfl⟩ | ⟨hc1, rfl⟩
      all_goals
        go_enter Tryz.func55, Tryz.ntmps55
        go_upto_region 4 with (go_at_call 102; refine (HOp.out _).mono ?_; rintro e w1 ⟨rfl, hb1⟩; have HB1 := Lib.hid hb1; clear hb1)
        go_region_with (first
          | (go_at_call 61; refine (HFm.out _).mono ?_; rintro e w2 ⟨rfl, rfl⟩)
          | (go_at_call 103; refine (HLast.out _ _ HB1.out.drew HTL.out).mono ?_; rintro e w3 ⟨v3, rfl, ⟨a3, n3, c3, rfl⟩, hb3, hk3⟩; have HB3 := Lib.hid (HB1.out.drew.trans (hb3.mono HB1.out.drew.size)); clear hb3 hk3))
      all_goals
        go_wp2
        go_ret2
        exact ⟨_, rfl, HB3.out, fun h => absurd h HE.out⟩
end Go.Proofs.YtcnmnkgnaknpdaaGreatDoor
