/-
  Plain mathematics of assembling: names, numbers between bounds, the first going over a program's lines (names, the next address, what is laid), the second going (values and words), the segments. No condition.
  Plain mathematics of assembling, further: what a text's number and its error can be; a name is no number. No condition.
  Plain mathematics of assembling, further: how long the words of a line and the lines of a text are together; what the labels of a line leave as it was.
  Plain mathematics of assembling, further: what holds of a program's state after each line of the first going (bounds; nothing lies on anything else; each item names its line).
  Plain mathematics of assembling, further: how long an instruction's text is; the second going, item by item.
  Plain mathematics of assembling, further: the segments of what lies low; two programs, assembled.
-/
import Derived.Test.YtcnmnkgnaknpdaaGreatDoorGb
import Derived.Test.YtcnmnkgnaknpdaaGreatDoorGd
import Derived.Test.YtcnmnkgnaknpdaaGreatDoorGg
import Derived.WalkKit
import Derived.Lib.Join

/-! Math -/
namespace Go.Proofs.YtcnmnkgnaknpdaaGreatDoor
open S02 S06 S07
namespace AS
/-- May a name begin with it? -/
def letB (c : UInt8) : Bool := (decide (97 ≤ c.toNat) && decide (c.toNat ≤ 122)) || (decide (65 ≤ c.toNat) && decide (c.toNat ≤ 90)) || decide (c.toNat = 95)
def digB (c : UInt8) : Bool := decide (48 ≤ c.toNat) && decide (c.toNat ≤ 57)
/-- May the byte stand at this place of a name? -/
def okB (l : List UInt8) (k : Nat) : Bool := letB (l.getD k 0) || (!decide (k = 0) && digB (l.getD k 0))
def okTo (l : List UInt8) : Nat → Bool
  | 0 => true
  | k + 1 => okTo l k && okB l k
def isNm (l : List UInt8) : Bool := (!decide (l = []) && decide (l.length ≤ 16)) && okTo l l.length
/-- A name's value. -/
def fnd : List (List UInt8 × Nat) → List UInt8 → Option Nat
  | [], _ => none
  | p :: r, s => if p.1 = s then some p.2 else fnd r s
/-- A number between bounds: its error, its value. -/
def nbE (s : List UInt8) (lo hi : Int) : Int := if NM.pE s = 0 ∧ (NM.pN s < lo ∨ hi < NM.pN s) then 3 else NM.pE s
def nbN (s : List UInt8) (lo hi : Int) : Int := if NM.pE s = 0 ∧ (NM.pN s < lo ∨ hi < NM.pN s) then 0 else NM.pN s
def frE (ns : List (List UInt8 × Nat)) (s : List UInt8) : Int := if isNm s = false then 2 else if (fnd ns s).isSome then 7 else 0
/-- What is laid: 1 an instruction, 2 words, 3 bytes, 4 zeros. -/
structure It where
  kind : Nat
  line : Nat
  pos : Nat
  size : Nat
  words : List (List UInt8)
structure St where
  names : List (List UInt8 × Nat)
  pos : Nat
  items : List It
def labs : St → List (List UInt8) → Int × St × List (List UInt8)
  | p, [] => (0, p, [])
  | p, w :: r => if Lib.hasSuffix w [58] = true then (if frE p.names (Lib.trimSuffix w [58]) = 0 then labs { p with names := p.names ++ [(Lib.trimSuffix w [58], p.pos)] } r else (frE p.names (Lib.trimSuffix w [58]), p, w :: r)) else (0, p, w :: r)
/-- Is something laid at an address? -/
def cov : List It → Nat → Bool
  | [], _ => false
  | y :: r, i => (decide (y.pos ≤ i) && decide (i < y.pos + y.size)) || cov r i
def ovl (pl : Nat → Bool) (a : Nat) : Nat → Bool
  | 0 => false
  | n + 1 => ovl pl a n || pl (a + n)
def laE (p : St) (al size : Nat) : Int := if ¬ p.pos % al = 0 ∨ 16384 < p.pos + size then 3 else if ovl (cov p.items) p.pos size = true then 7 else 0
def put (p : St) (kind line size : Nat) (words : List (List UInt8)) : St := { p with pos := p.pos + size, items := p.items ++ [⟨kind, line, p.pos, size, words⟩] }
def lay (p : St) (kind line al size : Nat) (words : List (List UInt8)) : Int × St := (laE p al size, put p kind line size words)
def dOrg : List UInt8 := [46, 111, 114, 103]
def dSpace : List UInt8 := [46, 115, 112, 97, 99, 101]
def dWord : List UInt8 := [46, 119, 111, 114, 100]
def dByte : List UInt8 := [46, 98, 121, 116, 101]
def dEqu : List UInt8 := [46, 101, 113, 117]
def one (p : St) (line : Nat) : List (List UInt8) → Int × St
  | [] => (0, p)
  | d :: r =>
    if Lib.hasPrefix d [46] = false then lay p 1 line 4 4 (d :: r)
    else if d = dOrg ∧ r.length = 1 then (nbE (r.getD 0 []) 0 16384, { p with pos := (nbN (r.getD 0 []) 0 16384).toNat })
    else if d = dSpace ∧ r.length = 1 then (if nbE (r.getD 0 []) 0 16384 = 0 then lay p 4 line 1 (nbN (r.getD 0 []) 0 16384).toNat [] else (nbE (r.getD 0 []) 0 16384, p))
    else if d = dWord ∧ 1 ≤ r.length then lay p 2 line 4 (4 * r.length) r
    else if d = dByte ∧ 1 ≤ r.length then lay p 3 line 1 (1 * r.length) r
    else if d = dEqu ∧ r.length = 2 then
      (if frE p.names (r.getD 0 []) = 0 then (nbE (r.getD 1 []) (-2147483648) 4294967295, { p with names := p.names ++ [(r.getD 0 [], (nbN (r.getD 1 []) (-2147483648) 4294967295 % 4294967296).toNat)] }) else (frE p.names (r.getD 0 []), p))
    else (2, p)
def code (l : List UInt8) : List UInt8 := (Lib.cut l [59]).1
/-- A line: its error, the state behind it. -/
def lineE (p : St) (k : Nat) (l : List UInt8) : Int := if (labs p (NM.wd (code l))).1 = 0 then (one (labs p (NM.wd (code l))).2.1 (k + 1) (labs p (NM.wd (code l))).2.2).1 else (labs p (NM.wd (code l))).1
def lineS (p : St) (k : Nat) (l : List UInt8) : St := (one (labs p (NM.wd (code l))).2.1 (k + 1) (labs p (NM.wd (code l))).2.2).2
/-- The first going from a line on: the error, its line, the state. -/
def first : List (List UInt8) → Nat → St → Int × Nat × St
  | [], _, p => (0, 0, p)
  | l :: r, k, p => if lineE p k l = 0 then first r (k + 1) (lineS p k l) else (lineE p k l, k + 1, p)
/-- A name's value, looked up: its error, its number. -/
def lkE (ns : List (List UInt8 × Nat)) (s : List UInt8) : Int := if isNm s = false then 2 else if (fnd ns s).isSome then 0 else 10
def lkN (ns : List (List UInt8 × Nat)) (s : List UInt8) : Int := if isNm s = false then 0 else ((fnd ns s).getD 0 : Nat)
/-- A value: its error, its number. -/
def vaE (ns : List (List UInt8 × Nat)) (s : List UInt8) (lo hi : Int) : Int := if isNm s = true then (if lkE ns s = 0 ∧ hi < lkN ns s then 3 else lkE ns s) else nbE s lo hi
def vaN (ns : List (List UInt8 × Nat)) (s : List UInt8) (lo hi : Int) : Int := if isNm s = true then (if lkE ns s = 0 ∧ hi < lkN ns s then 0 else lkN ns s) else nbN s lo hi % 4294967296
/-- The lowest bytes of a number. -/
def byt (v k : Nat) : UInt8 := UInt8.ofNat (v / 256 ^ k % 256)
def le (v n : Nat) : List UInt8 := (List.range n).map (byt v)
def vals (ns : List (List UInt8 × Nat)) (size : Nat) (lo hi : Int) : List (List UInt8) → Int × List UInt8
  | [] => (0, [])
  | s :: r => if vaE ns s lo hi = 0 then ((vals ns size lo hi r).1, le (vaN ns s lo hi).toNat size ++ (vals ns size lo hi r).2) else (vaE ns s lo hi, [])
def hasI (f : Int) : Bool := decide (f = 2) || decide (f = 3) || decide (f = 4) || decide (f = 5) || decide (f = 7) || decide (f = 8)
/-- A name behind hi, lo or nothing. -/
def hiV (v : Int) : Int := (v + 8192) % 4294967296 / 16384
def loV (v : Int) : Int := (v + 8192) % 16384 - 8192
def sgV (v : Int) : Int := (v + 2147483648) % 4294967296 - 2147483648
def tHi : List UInt8 := [104, 105]
def tLo : List UInt8 := [108, 111]
/-- The error and the text of an imm. -/
def imE (ns : List (List UInt8 × Nat)) (pos : Nat) (op : Int) (part word : List UInt8) : Int :=
  if part = [] ∧ isNm word = false then (if NM.pE word = 0 ∨ NM.pE word = 2 then 0 else NM.pE word)
  else if lkE ns word = 0 then (if part = [] ∧ (op = 49 ∨ IM.fm op = 4) ∧ ¬ (lkN ns word - pos) % 4 = 0 then 3 else 0) else lkE ns word
def imT (ns : List (List UInt8 × Nat)) (pos : Nat) (op : Int) (part word : List UInt8) : List UInt8 :=
  if part = [] ∧ isNm word = false then (if NM.pE word = 0 then Lib.itoa (NM.pN word) else word)
  else if part = tHi then Lib.itoa (hiV (lkN ns word)) else if part = tLo then Lib.itoa (loV (lkN ns word))
  else if op = 49 ∨ IM.fm op = 4 then Lib.itoa (sgV (lkN ns word - pos) / 4) else Lib.itoa (sgV (lkN ns word))
/-- The operands with the last one read: the error, the operands. -/
def rsE (ns : List (List UInt8 × Nat)) (pos : Nat) (op : Int) (l : List (List UInt8)) : Int :=
  if l = [] ∨ hasI (IM.fm op) = false then 0
  else if 2 ≤ l.length ∧ (l.getD (l.length - 2) [] = tHi ∨ l.getD (l.length - 2) [] = tLo) then imE ns pos op (l.getD (l.length - 2) []) (l.getD (l.length - 1) [])
  else imE ns pos op [] (l.getD (l.length - 1) [])
def rsL (ns : List (List UInt8 × Nat)) (pos : Nat) (op : Int) (l : List (List UInt8)) : List (List UInt8) :=
  if l = [] ∨ hasI (IM.fm op) = false then l
  else if 2 ≤ l.length ∧ (l.getD (l.length - 2) [] = tHi ∨ l.getD (l.length - 2) [] = tLo) then l.take (l.length - 2) ++ [imT ns pos op (l.getD (l.length - 2) []) (l.getD (l.length - 1) [])]
  else l.take (l.length - 1) ++ [imT ns pos op [] (l.getD (l.length - 1) [])]
/-- An instruction's text. -/
def txt (d : List UInt8) (l : List (List UInt8)) : List UInt8 := if l = [] then d else d ++ ([32] ++ Lib.join l [44, 32])
def enE (ns : List (List UInt8 × Nat)) (pos : Nat) (d : List UInt8) (l : List (List UInt8)) : Int :=
  if TX.oo d = 0 then 9 else if rsE ns pos (TX.oo d) l = 0 then
    (if TX.pe (txt d (rsL ns pos (TX.oo d) l)) = 0 then IM.rc (TX.pq (txt d (rsL ns pos (TX.oo d) l))).1 (TX.pq (txt d (rsL ns pos (TX.oo d) l))).2.1 (TX.pq (txt d (rsL ns pos (TX.oo d) l))).2.2.1 (TX.pq (txt d (rsL ns pos (TX.oo d) l))).2.2.2.1 (TX.pq (txt d (rsL ns pos (TX.oo d) l))).2.2.2.2
     else TX.pe (txt d (rsL ns pos (TX.oo d) l))) else rsE ns pos (TX.oo d) l
def enN (ns : List (List UInt8 × Nat)) (pos : Nat) (d : List UInt8) (l : List (List UInt8)) : Int :=
  IM.ec (TX.pq (txt d (rsL ns pos (TX.oo d) l))).1 (TX.pq (txt d (rsL ns pos (TX.oo d) l))).2.1 (TX.pq (txt d (rsL ns pos (TX.oo d) l))).2.2.1 (TX.pq (txt d (rsL ns pos (TX.oo d) l))).2.2.2.1 (TX.pq (txt d (rsL ns pos (TX.oo d) l))).2.2.2.2
/-- What an item is: the error, the bytes. -/
def itB (ns : List (List UInt8 × Nat)) (x : It) : Int × List UInt8 :=
  if x.kind = 1 then (enE ns x.pos (x.words.getD 0 []) x.words.tail, le (enN ns x.pos (x.words.getD 0 []) x.words.tail).toNat 4)
  else if x.kind = 2 then vals ns 4 (-2147483648) 4294967295 x.words
  else if x.kind = 3 then vals ns 1 (-128) 255 x.words
  else (0, List.replicate x.size 0)
/-- Bytes written at an address. -/
def wr (m : Nat → UInt8) (a : Nat) (l : List UInt8) : Nat → UInt8 := fun i => if a ≤ i ∧ i < a + l.length then l.getD (i - a) 0 else m i
/-- The second going: the error, its line, the memory. -/
def second (ns : List (List UInt8 × Nat)) : List It → (Nat → UInt8) → Int × Nat × (Nat → UInt8)
  | [], m => (0, 0, m)
  | x :: r, m => if (itB ns x).1 = 0 then second ns r (wr m x.pos (itB ns x).2) else ((itB ns x).1, x.line, m)
/-- The segments of the first bytes. -/
def ext : List (Nat × List UInt8) → UInt8 → List (Nat × List UInt8)
  | [], _ => []
  | [p], c => [(p.1, p.2 ++ [c])]
  | p :: q :: r, c => p :: ext (q :: r) c
def segs (pl : Nat → Bool) (m : Nat → UInt8) : Nat → List (Nat × List UInt8)
  | 0 => []
  | i + 1 => if pl i = true then (if i = 0 ∨ pl (i - 1) = false then segs pl m i ++ [(i, [m i])] else ext (segs pl m i) (m i)) else segs pl m i
def tStart : List UInt8 := [115, 116, 97, 114, 116]
structure Ans where
  start : Nat
  segs : List (Nat × List UInt8)
  names : List (List UInt8 × Nat)
  line : Nat
  err : Int
def start (ns : List (List UInt8 × Nat)) (l : List (Nat × List UInt8)) : Nat := match fnd ns tStart with | some v => v | none => match l with | p :: _ => p.1 | [] => 0
/-- What assembling answers. -/
def asm (src : List UInt8) : Ans :=
  if NM.lE src = 0 then
    (if (first (NM.lL src) 0 ⟨[], 0, []⟩).1 = 0 then
      (if (second (first (NM.lL src) 0 ⟨[], 0, []⟩).2.2.names (first (NM.lL src) 0 ⟨[], 0, []⟩).2.2.items fun _ => 0).1 = 0 then
        ⟨start (first (NM.lL src) 0 ⟨[], 0, []⟩).2.2.names (segs (cov (first (NM.lL src) 0 ⟨[], 0, []⟩).2.2.items) (second (first (NM.lL src) 0 ⟨[], 0, []⟩).2.2.names (first (NM.lL src) 0 ⟨[], 0, []⟩).2.2.items fun _ => 0).2.2 16384),
          segs (cov (first (NM.lL src) 0 ⟨[], 0, []⟩).2.2.items) (second (first (NM.lL src) 0 ⟨[], 0, []⟩).2.2.names (first (NM.lL src) 0 ⟨[], 0, []⟩).2.2.items fun _ => 0).2.2 16384,
          (first (NM.lL src) 0 ⟨[], 0, []⟩).2.2.names, 0, 0⟩
       else ⟨0, [], [], (second (first (NM.lL src) 0 ⟨[], 0, []⟩).2.2.names (first (NM.lL src) 0 ⟨[], 0, []⟩).2.2.items fun _ => 0).2.1, (second (first (NM.lL src) 0 ⟨[], 0, []⟩).2.2.names (first (NM.lL src) 0 ⟨[], 0, []⟩).2.2.items fun _ => 0).1⟩)
     else ⟨0, [], [], (first (NM.lL src) 0 ⟨[], 0, []⟩).2.1, (first (NM.lL src) 0 ⟨[], 0, []⟩).1⟩)
  else ⟨0, [], [], 0, NM.lE src⟩
/-! ### Names -/
theorem okTo_lt {l : List UInt8} : ∀ {n k : Nat}, okTo l n = true → k < n → okB l k = true
  | 0, _, _, h => absurd h (Nat.not_lt_zero _)
  | n + 1, k, h, hk => by
    rw [okTo, Bool.and_eq_true] at h
    by_cases e : k = n
    · subst e; exact h.2
    · exact okTo_lt h.1 (by omega)
theorem okTo_no {l : List UInt8} : ∀ {n k : Nat}, k < n → okB l k = false → okTo l n = false
  | 0, _, h, _ => absurd h (Nat.not_lt_zero _)
  | n + 1, k, h, hk => by
    rw [okTo]
    by_cases e : k = n
    · subst e; rw [hk, Bool.and_false]
    · rw [okTo_no (by omega) hk, Bool.false_and]
theorem fnd_snoc (ns : List (List UInt8 × Nat)) (s t : List UInt8) (v : Nat) : fnd (ns ++ [(s, v)]) t = (match fnd ns t with | some u => some u | none => if s = t then some v else none) := by
  induction ns with
  | nil => rfl
  | cons p r ih =>
    rw [List.cons_append, fnd, fnd, ih]
    split <;> rfl
end AS
end Go.Proofs.YtcnmnkgnaknpdaaGreatDoor
/-! MathB -/
namespace Go.Proofs.YtcnmnkgnaknpdaaGreatDoor
open S02 S06 S07
namespace AS
theorem pdE_cases (l : List UInt8) (neg : Bool) : NM.pdE l neg = 0 ∨ NM.pdE l neg = 2 ∨ NM.pdE l neg = 3 := by
  unfold NM.pdE; split <;> try split
  all_goals simp
theorem phE_cases (l : List UInt8) : NM.phE l = 0 ∨ NM.phE l = 2 := by unfold NM.phE; split <;> simp
theorem pE_cases (l : List UInt8) : NM.pE l = 0 ∨ NM.pE l = 2 ∨ NM.pE l = 3 := by
  unfold NM.pE
  split
  · rcases phE_cases (l.drop 2) with h | h <;> simp [h]
  · exact pdE_cases _ _
theorem phN_bd (l : List UInt8) : 0 ≤ NM.phN l ∧ NM.phN l < 4294967296 := by
  unfold NM.phN
  split
  · rename_i h
    have := NM.val16_lt l (NM.vB_al h.1).1 h.2
    omega
  · omega
theorem pdN_bd (l : List UInt8) (neg : Bool) : -9223372036854775808 ≤ NM.pdN l neg ∧ NM.pdN l neg ≤ 9223372036854775807 := by
  unfold NM.pdN
  split
  · rename_i h
    unfold NM.pdE at h
    split at h
    · omega
    · split at h
      · omega
      · rename_i _ h2
        unfold NM.lim at h2
        cases neg <;> simp at h2 ⊢ <;> omega
  · omega
theorem pN_bd (l : List UInt8) : -9223372036854775808 ≤ NM.pN l ∧ NM.pN l ≤ 9223372036854775807 := by
  unfold NM.pN
  split
  · have := phN_bd (l.drop 2); omega
  · exact pdN_bd _ _
theorem letB_dig {c : UInt8} (h : letB c = true) : ¬ (48 ≤ c.toNat ∧ c.toNat ≤ 57) ∧ ¬ c.toNat = 45 := by
  unfold letB at h
  simp at h
  omega
/-- A name is no number: its form is wrong. -/
theorem pE_name {l : List UInt8} (h : isNm l = true) : NM.pE l = 2 := by
  unfold isNm at h
  simp only [Bool.and_eq_true, Bool.not_eq_true', decide_eq_false_iff_not] at h
  obtain ⟨⟨h1, _⟩, h2⟩ := h
  obtain ⟨c, r, rfl⟩ : ∃ c r, l = c :: r := by cases l with | nil => exact absurd rfl h1 | cons c r => exact ⟨c, r, rfl⟩
  have h3 := okTo_lt (k := 0) h2 (by simp)
  unfold okB at h3
  simp at h3
  obtain ⟨n1, n2⟩ := letB_dig h3
  have e1 : Lib.hasPrefix (c :: r) [48, 120] = false := by
    unfold Lib.hasPrefix
    simp [List.isPrefixOf]
    intro e
    subst e
    exact absurd (by decide) n1
  have e2 : Lib.hasPrefix (c :: r) [45] = false := by
    unfold Lib.hasPrefix
    simp [List.isPrefixOf]
    intro e
    subst e
    exact absurd (by decide) n2
  unfold NM.pE
  rw [e1, e2, if_neg (by simp)]
  have e3 : Lib.trimPrefix (c :: r) [45] = c :: r := by unfold Lib.trimPrefix; rw [e2]; rfl
  rw [e3]
  refine (NM.pd_bad _ _ (NM.vB_no _ _ ?_)).1
  unfold NM.al
  rw [List.all_cons]
  have : decide (NM.dv c < 10) = false := by
    rw [decide_eq_false_iff_not]
    unfold NM.dv
    rw [if_neg n1]
    split <;> omega
  rw [this, Bool.false_and]
theorem sgV_bd (v : Int) : -2147483648 ≤ sgV v ∧ sgV v ≤ 2147483647 := by unfold sgV; omega
theorem loV_bd (v : Int) : -8192 ≤ loV v ∧ loV v ≤ 8191 := by unfold loV; omega
theorem hiV_bd (v : Int) : 0 ≤ hiV v ∧ hiV v < 262144 := by unfold hiV; omega
end AS
end Go.Proofs.YtcnmnkgnaknpdaaGreatDoor
/-! MathC -/
namespace Go.Proofs.YtcnmnkgnaknpdaaGreatDoor
open S02 S06 S07
namespace AS
/-- The length of texts together. -/
def tot (l : List (List UInt8)) : Nat := (l.map List.length).sum
theorem tot_snoc (l : List (List UInt8)) (s : List UInt8) : tot (l ++ [s]) = tot l + s.length := by simp [tot]
theorem tot_cons (l : List (List UInt8)) (s : List UInt8) : tot (s :: l) = s.length + tot l := by simp [tot]
theorem tot_mem {l : List (List UInt8)} {y : List UInt8} (h : y ∈ l) : y.length ≤ tot l := by
  induction l with
  | nil => cases h
  | cons s r ih =>
    rw [tot_cons]
    rcases List.mem_cons.1 h with rfl | h
    · omega
    · have := ih h; omega
theorem sl_le (l : List UInt8) (a b : Nat) : (NM.sl l a b).length ≤ b - a := by
  unfold NM.sl
  simp only [List.length_drop, List.length_take]
  omega
theorem ws_tot (l : List UInt8) (k : Nat) : (NM.ws l k).1.length + tot (NM.ws l k).1 ≤ (NM.ws l k).2 := by
  induction k with
  | zero => simp [NM.ws, tot]
  | succ k ih =>
    have hb := NM.ws_bd l k
    have hs := sl_le l (NM.ws l k).2 k
    rw [NM.ws]
    split
    · split
      · simp only [tot_snoc, List.length_append, List.length_singleton]
        omega
      · simp only []
        omega
    · exact ih
theorem wd_tot (l : List UInt8) : (NM.wd l).length + tot (NM.wd l) ≤ l.length + 1 := by
  have h := ws_tot l l.length
  have hb := NM.ws_bd l l.length
  have hs := sl_le l (NM.ws l l.length).2 l.length
  unfold NM.wd
  split
  · simp only [tot_snoc, List.length_append, List.length_singleton]
    omega
  · omega
theorem ln_tot (l : List UInt8) (k : Nat) : (NM.ln l k).1.length + tot (NM.ln l k).1 ≤ (NM.ln l k).2 := by
  induction k with
  | zero => simp [NM.ln, tot]
  | succ k ih =>
    have hb := NM.ln_bd l k
    have hs := sl_le l (NM.ln l k).2 k
    rw [NM.ln]
    split
    · simp only [tot_snoc, List.length_append, List.length_singleton]
      omega
    · exact ih
theorem lL_tot (l : List UInt8) : (NM.lL l).length + tot (NM.lL l) ≤ 65536 := by
  unfold NM.lL
  split
  · rename_i h
    have h1 := ln_tot l l.length
    have hb := NM.ln_bd l l.length
    unfold NM.lE at h
    split at h
    · cases h
    · rename_i h2
      omega
  · simp [tot]
theorem cut_le (s p : List UInt8) : (Lib.cut s p).1.length ≤ s.length := by
  unfold Lib.cut
  split
  · simp only [List.length_take]; omega
  · simp
theorem code_le (l : List UInt8) : (code l).length ≤ l.length := cut_le _ _
theorem labs_no {p : St} {s : List UInt8} {r : List (List UInt8)} (h : Lib.hasSuffix s [58] = false) : labs p (s :: r) = (0, p, s :: r) := by rw [labs, if_neg (by rw [h]; simp)]
theorem labs_bad {p : St} {s : List UInt8} {r : List (List UInt8)} (h : Lib.hasSuffix s [58] = true) (hf : ¬ frE p.names (Lib.trimSuffix s [58]) = 0) : labs p (s :: r) = (frE p.names (Lib.trimSuffix s [58]), p, s :: r) := by rw [labs, if_pos h, if_neg hf]
theorem labs_ok {p : St} {s : List UInt8} {r : List (List UInt8)} (h : Lib.hasSuffix s [58] = true) (hf : frE p.names (Lib.trimSuffix s [58]) = 0) : labs p (s :: r) = labs { p with names := p.names ++ [(Lib.trimSuffix s [58], p.pos)] } r := by rw [labs, if_pos h, if_pos hf]
theorem line_end {st st' : St} {k : Nat} {l : List UInt8} {r : List (List UInt8)} (h : labs st (NM.wd (code l)) = (0, st', r)) : lineE st k l = (one st' (k + 1) r).1 ∧ lineS st k l = (one st' (k + 1) r).2 := by
  unfold lineE lineS
  rw [h]
  exact ⟨rfl, rfl⟩
theorem line_err {st st' : St} {k : Nat} {l : List UInt8} {r : List (List UInt8)} {e : Int} (h : labs st (NM.wd (code l)) = (e, st', r)) (he : ¬ e = 0) : lineE st k l = e := by
  unfold lineE
  rw [h]
  simp only []
  rw [if_neg he]
end AS
end Go.Proofs.YtcnmnkgnaknpdaaGreatDoor
/-! MathD -/
namespace Go.Proofs.YtcnmnkgnaknpdaaGreatDoor
open S02 S06 S07
namespace AS
/-- What is laid is as it should be. -/
def gd (x : It) : Prop := x.pos + x.size ≤ 16384 ∧ x.words.length + tot x.words ≤ 70000 ∧ ((x.kind = 1 ∧ x.size = 4 ∧ x.words ≠ []) ∨ (x.kind = 2 ∧ x.size = 4 * x.words.length ∧ x.words ≠ []) ∨ (x.kind = 3 ∧ x.size = 1 * x.words.length ∧ x.words ≠ []) ∨ x.kind = 4)
structure Ok (p : St) (b : Nat) : Prop where
  pos : p.pos ≤ 16384
  its : ∀ x ∈ p.items, gd x
  dis : ∀ pre x suf, p.items = pre ++ x :: suf → ∀ i, x.pos ≤ i → i < x.pos + x.size → cov pre i = false
  nms : p.names.length ≤ b
theorem Ok.mono {p : St} {b b' : Nat} (h : Ok p b) (hb : b ≤ b') : Ok p b' := ⟨h.pos, h.its, h.dis, Nat.le_trans h.nms hb⟩
theorem ovl_no {pl : Nat → Bool} {a : Nat} : ∀ {n : Nat}, ovl pl a n = false → ∀ i, a ≤ i → i < a + n → pl i = false
  | 0, _, i, h1, h2 => by omega
  | n + 1, h, i, h1, h2 => by
    rw [ovl, Bool.or_eq_false_iff] at h
    by_cases e : i = a + n
    · subst e; exact h.2
    · exact ovl_no h.1 i h1 (by omega)
theorem snoc_split {α : Type} {l pre suf : List α} {x y : α} (h : l ++ [y] = pre ++ x :: suf) : (suf = [] ∧ pre = l ∧ x = y) ∨ ∃ s', l = pre ++ x :: s' := by
  rcases List.eq_nil_or_concat suf with rfl | ⟨s', z, rfl⟩
  · left
    have := List.append_inj' (s₁ := l) (t₁ := [y]) (s₂ := pre) (t₂ := [x]) h rfl
    obtain ⟨h1, h2⟩ := this
    injection h2 with h2
    exact ⟨rfl, h1.symm, h2.symm⟩
  · right
    have h' : l ++ [y] = (pre ++ x :: s') ++ [z] := by rw [h]; simp
    exact ⟨s', (List.append_inj' h' rfl).1⟩
theorem lay_ok {p : St} {b al : Nat} {kind line size : Nat} {words : List (List UInt8)} (h : Ok p b) (h0 : laE p al size = 0) (hw : words.length + tot words ≤ 70000) (hk : (kind = 1 ∧ size = 4 ∧ words ≠ []) ∨ (kind = 2 ∧ size = 4 * words.length ∧ words ≠ []) ∨ (kind = 3 ∧ size = 1 * words.length ∧ words ≠ []) ∨ kind = 4) : Ok (put p kind line size words) b := by
  unfold laE at h0
  split at h0
  · cases h0
  · rename_i h1
    split at h0
    · cases h0
    · rename_i h2
      have hs : p.pos + size ≤ 16384 := by omega
      refine ⟨hs, fun x hx => ?_, fun pre x suf he i h3 h4 => ?_, h.nms⟩
      · rcases List.mem_append.1 (show x ∈ p.items ++ [⟨kind, line, p.pos, size, words⟩] from hx) with hx | hx
        · exact h.its x hx
        · rw [List.mem_singleton] at hx
          subst hx
          exact ⟨hs, hw, hk⟩
      · rcases snoc_split (show p.items ++ [⟨kind, line, p.pos, size, words⟩] = pre ++ x :: suf from he) with ⟨_, rfl, rfl⟩ | ⟨s', he'⟩
        · exact ovl_no (Bool.eq_false_iff.2 h2) i h3 h4
        · exact h.dis pre x s' he' i h3 h4
theorem nb_bd {s : List UInt8} {lo hi : Int} (h : nbE s lo hi = 0) : lo ≤ nbN s lo hi ∧ nbN s lo hi ≤ hi := by
  unfold nbE at h
  unfold nbN
  split at h
  · cases h
  · rename_i h1
    rw [if_neg h1]
    rw [h] at h1
    simp at h1
    omega
/-- The items behind a line. -/
def newIt (p p' : St) (line : Nat) : Prop := p'.items = p.items ∨ ∃ x : It, p'.items = p.items ++ [x] ∧ x.line = line
theorem put_new (p : St) (kind line size : Nat) (words : List (List UInt8)) : newIt p (put p kind line size words) line := .inr ⟨_, rfl, rfl⟩
theorem one_ok {p : St} {b line : Nat} {W : List (List UInt8)} (h : Ok p b) (hw : W.length + tot W ≤ 70000) (h0 : (one p line W).1 = 0) : Ok (one p line W).2 (b + W.length) ∧ newIt p (one p line W).2 line := by
  cases W with
  | nil => exact ⟨h, .inl rfl⟩
  | cons d r =>
    rw [List.length_cons, tot_cons] at hw
    have hm := h.mono (show b ≤ b + (d :: r).length by omega)
    rw [one] at h0 ⊢
    split at h0
    · rename_i c
      rw [if_pos c]
      exact ⟨lay_ok hm h0 (by rw [List.length_cons, tot_cons]; omega) (.inl ⟨rfl, rfl, by simp⟩), put_new _ _ _ _ _⟩
    · rename_i c
      rw [if_neg c]
      split at h0
      · rename_i c
        rw [if_pos c]
        have := nb_bd h0
        exact ⟨⟨by show Int.toNat _ ≤ 16384; omega, hm.its, hm.dis, hm.nms⟩, .inl rfl⟩
      · rename_i c
        rw [if_neg c]
        split at h0
        · rename_i c
          rw [if_pos c]
          split at h0
          · rename_i c
            rw [if_pos c]
            exact ⟨lay_ok hm h0 (by simp [tot]) (.inr (.inr (.inr rfl))), put_new _ _ _ _ _⟩
          · rename_i c
            exact absurd h0 c
        · rename_i c
          rw [if_neg c]
          split at h0
          · rename_i c
            rw [if_pos c]
            exact ⟨lay_ok hm h0 (by omega) (.inr (.inl ⟨rfl, rfl, by intro e; rw [e] at c; simp at c⟩)), put_new _ _ _ _ _⟩
          · rename_i c
            rw [if_neg c]
            split at h0
            · rename_i c
              rw [if_pos c]
              exact ⟨lay_ok hm h0 (by omega) (.inr (.inr (.inl ⟨rfl, rfl, by intro e; rw [e] at c; simp at c⟩))), put_new _ _ _ _ _⟩
            · rename_i c
              rw [if_neg c]
              split at h0
              · rename_i c
                rw [if_pos c]
                split at h0
                · rename_i c
                  rw [if_pos c]
                  refine ⟨⟨hm.pos, hm.its, hm.dis, ?_⟩, .inl rfl⟩
                  have := h.nms
                  simp
                  omega
                · rename_i c
                  exact absurd h0 c
              · cases h0
theorem labs_keep : ∀ (W : List (List UInt8)) (p : St), (labs p W).2.1.items = p.items ∧ (labs p W).2.1.pos = p.pos ∧ (labs p W).2.1.names.length + (labs p W).2.2.length ≤ p.names.length + W.length ∧ (labs p W).2.2.length + tot (labs p W).2.2 ≤ W.length + tot W
  | [], p => ⟨rfl, rfl, Nat.le_refl _, Nat.le_refl _⟩
  | w :: r, p => by
    rw [labs]
    split
    · split
      · obtain ⟨h1, h2, h3, h4⟩ := labs_keep r { p with names := p.names ++ [(Lib.trimSuffix w [58], p.pos)] }
        refine ⟨h1, h2, ?_, ?_⟩
        · simp only [List.length_append, List.length_cons, List.length_nil] at h3 ⊢
          omega
        · rw [tot_cons, List.length_cons]; omega
      · exact ⟨rfl, rfl, Nat.le_refl _, Nat.le_refl _⟩
    · exact ⟨rfl, rfl, Nat.le_refl _, Nat.le_refl _⟩
theorem line_ok {p : St} {b k : Nat} {l : List UInt8} (h : Ok p b) (hl : l.length ≤ 66000) (h0 : lineE p k l = 0) : Ok (lineS p k l) (b + (l.length + 1)) ∧ newIt p (lineS p k l) (k + 1) := by
  obtain ⟨h1, h2, h3, h4⟩ := labs_keep (NM.wd (code l)) p
  have ht := wd_tot (code l)
  have hc := code_le l
  unfold lineE at h0
  unfold lineS
  split at h0
  · have hq : Ok (labs p (NM.wd (code l))).2.1 ((labs p (NM.wd (code l))).2.1.names.length) := ⟨by rw [h2]; exact h.pos, by rw [h1]; exact h.its, by rw [h1]; exact h.dis, Nat.le_refl _⟩
    obtain ⟨g1, g2⟩ := one_ok hq (by omega) h0
    have := h.nms
    refine ⟨g1.mono (by omega), ?_⟩
    unfold newIt at g2 ⊢
    rw [h1] at g2
    exact g2
  · rename_i c
    exact absurd h0 c
end AS
end Go.Proofs.YtcnmnkgnaknpdaaGreatDoor
/-! MathE -/
namespace Go.Proofs.YtcnmnkgnaknpdaaGreatDoor
open S02 S06 S07
namespace AS
theorem tot_take (l : List (List UInt8)) (k : Nat) : tot (l.take k) ≤ tot l := by
  induction l generalizing k with
  | nil => simp
  | cons s r ih =>
    cases k with
    | zero => simp [tot]
    | succ k =>
      rw [List.take_succ_cons, tot_cons, tot_cons]
      have := ih k
      omega
theorem tail_len (sep : List UInt8) : ∀ r : List (List UInt8), (Lib.joinTail sep r).length ≤ tot r + sep.length * r.length
  | [] => by simp [Lib.joinTail]
  | t :: r => by
    have ih := tail_len sep r
    rw [show Lib.joinTail sep (t :: r) = (sep ++ t) ++ Lib.joinTail sep r by simp [Lib.joinTail], List.length_append, List.length_append, tot_cons, List.length_cons, Nat.mul_add]
    omega
theorem join_len (l : List (List UInt8)) (sep : List UInt8) : (Lib.join l sep).length ≤ tot l + sep.length * l.length := by
  cases l with
  | nil => simp [Lib.join_nil]
  | cons s r =>
    have := tail_len sep r
    rw [Lib.join_cons, List.length_append, tot_cons, List.length_cons, Nat.mul_add]
    omega
theorem ito (n : Int) (h : -9223372036854775808 ≤ n ∧ n ≤ 9223372036854775807) : (Lib.itoa n).length ≤ 21 := by
  have := Lib.itoa_length_le n h.1 h.2
  omega
theorem imT_len {ns : List (List UInt8 × Nat)} (hu : ∀ p ∈ ns, p.2 < 4294967296) (pos : Nat) (op : Int) (part word : List UInt8) : (imT ns pos op part word).length ≤ 21 + word.length := by
  have hl : 0 ≤ lkN ns word ∧ lkN ns word < 4294967296 := by
    unfold lkN
    split
    · omega
    · have : (fnd ns word).getD 0 < 4294967296 := by
        clear pos op part
        induction ns with
        | nil => exact (by decide : (0 : Nat) < 4294967296)
        | cons p r ih =>
          rw [fnd]
          split
          · exact hu p (by simp)
          · exact ih fun p hp => hu p (List.mem_cons_of_mem _ hp)
      omega
  have h1 := hiV_bd (lkN ns word)
  have h2 := loV_bd (lkN ns word)
  have h3 := sgV_bd (lkN ns word)
  have h4 := sgV_bd (lkN ns word - pos)
  unfold imT
  split
  · split
    · have := ito (NM.pN word) (pN_bd word); omega
    · omega
  · split
    · have := ito (hiV (lkN ns word)) (by omega); omega
    · split
      · have := ito (loV (lkN ns word)) (by omega); omega
      · split
        · have := ito (sgV (lkN ns word - pos) / 4) (by omega); omega
        · have := ito (sgV (lkN ns word)) (by omega); omega
theorem getD_tot (l : List (List UInt8)) (i : Nat) : (l.getD i []).length ≤ tot l := by
  by_cases h : i < l.length
  · rw [List.getD_eq_getElem?_getD, List.getElem?_eq_getElem h]
    exact tot_mem (List.getElem_mem h)
  · rw [List.getD_eq_getElem?_getD, List.getElem?_eq_none (by omega)]
    simp
theorem rsL_len {ns : List (List UInt8 × Nat)} (hu : ∀ p ∈ ns, p.2 < 4294967296) (pos : Nat) (op : Int) (l : List (List UInt8)) : (rsL ns pos op l).length ≤ l.length + 1 ∧ tot (rsL ns pos op l) ≤ 2 * tot l + 21 := by
  have h1 := imT_len hu pos op (l.getD (l.length - 2) []) (l.getD (l.length - 1) [])
  have h2 := imT_len hu pos op [] (l.getD (l.length - 1) [])
  have h3 := getD_tot l (l.length - 1)
  have h4 := tot_take l (l.length - 2)
  have h5 := tot_take l (l.length - 1)
  unfold rsL
  split
  · omega
  · split
    · rw [tot_snoc, List.length_append, List.length_take, List.length_singleton]; omega
    · rw [tot_snoc, List.length_append, List.length_take, List.length_singleton]; omega
theorem txt_len {ns : List (List UInt8 × Nat)} (hu : ∀ p ∈ ns, p.2 < 4294967296) (pos : Nat) (op : Int) (d : List UInt8) (l : List (List UInt8)) (h : (d :: l).length + tot (d :: l) ≤ 70000) : (txt d (rsL ns pos op l)).length ≤ 400000 := by
  rw [List.length_cons, tot_cons] at h
  obtain ⟨h1, h2⟩ := rsL_len hu pos op l
  have h3 := join_len (rsL ns pos op l) [44, 32]
  simp only [List.length_cons, List.length_nil] at h3
  unfold txt
  split
  · omega
  · simp only [List.length_append, List.length_cons, List.length_nil]
    omega
/-! ### The second going -/
theorem second_none {ns : List (List UInt8 × Nat)} {l : List It} {m : Nat → UInt8} (x : It) (h : itB ns x = (0, List.replicate x.size 0)) (hm : ∀ i, x.pos ≤ i → i < x.pos + x.size → m i = 0) : second ns (x :: l) m = second ns l m := by
  rw [second, h, if_pos rfl]
  congr 1
  funext i
  unfold wr
  split
  · rename_i c
    rw [List.length_replicate] at c
    rw [hm i c.1 c.2, List.getD_eq_getElem?_getD, List.getElem?_replicate]
    split <;> rfl
  · rfl
theorem second_ok {ns : List (List UInt8 × Nat)} {l : List It} {m : Nat → UInt8} {x : It} (h : (itB ns x).1 = 0) : second ns (x :: l) m = second ns l (wr m x.pos (itB ns x).2) := by rw [second, if_pos h]
theorem second_bad {ns : List (List UInt8 × Nat)} {l : List It} {m : Nat → UInt8} {x : It} (h : ¬ (itB ns x).1 = 0) : second ns (x :: l) m = ((itB ns x).1, x.line, m) := by rw [second, if_neg h]
theorem cov_app (a b : List It) (i : Nat) : cov (a ++ b) i = (cov a i || cov b i) := by
  induction a with
  | nil => simp [cov]
  | cons x r ih => rw [List.cons_append, cov, cov, ih, Bool.or_assoc]
theorem wr_zero {m : Nat → UInt8} {pre : List It} {x : It} {l : List UInt8} (hz : ∀ i, cov pre i = false → m i = 0) (hl : l.length ≤ x.size) : ∀ i, cov (pre ++ [x]) i = false → wr m x.pos l i = 0 := by
  intro i h
  rw [cov_app, Bool.or_eq_false_iff] at h
  obtain ⟨h1, h2⟩ := h
  unfold wr
  rw [if_neg, hz i h1]
  intro c
  simp [cov] at h2
  omega
theorem vals_len (ns : List (List UInt8 × Nat)) (sz : Nat) (lo hi : Int) : ∀ l : List (List UInt8), (vals ns sz lo hi l).2.length ≤ sz * l.length
  | [] => by simp [vals]
  | s :: r => by
    have ih := vals_len ns sz lo hi r
    rw [vals]
    split
    · simp only [List.length_append, List.length_cons]
      rw [show (le (vaN ns s lo hi).toNat sz).length = sz by simp [le], Nat.mul_add]
      omega
    · simp
theorem itB_len {ns : List (List UInt8 × Nat)} {x : It} (h : gd x) : (itB ns x).2.length ≤ x.size := by
  obtain ⟨_, _, h | h | h | h⟩ := h
  · unfold itB; rw [if_pos h.1, h.2.1]; simp [le]
  · unfold itB; rw [if_neg (by omega), if_pos h.1, h.2.1]; exact vals_len _ _ _ _ _
  · unfold itB; rw [if_neg (by omega), if_neg (by omega), if_pos h.1, h.2.1]; exact vals_len _ _ _ _ _
  · unfold itB; rw [if_neg (by omega), if_neg (by omega), if_neg (by omega)]; simp
end AS
end Go.Proofs.YtcnmnkgnaknpdaaGreatDoor
/-! MathG -/
namespace Go.Proofs.YtcnmnkgnaknpdaaGreatDoor
open S02 S06 S07
namespace AS
theorem segs_low {pl : Nat → Bool} {m : Nat → UInt8} {k : Nat} : ∀ {n : Nat}, k ≤ n → (∀ i, k ≤ i → i < n → pl i = false) → segs pl m n = segs pl m k
  | 0, h, _ => by rw [show k = 0 by omega]
  | n + 1, h, hp => by
    by_cases e : k = n + 1
    · rw [e]
    · rw [segs, if_neg (by rw [hp n (by omega) (by omega)]; simp)]
      exact segs_low (by omega) fun i h1 h2 => hp i h1 (by omega)
theorem cov_high {l : List It} {k : Nat} (h : ∀ y ∈ l, y.pos + y.size ≤ k) : ∀ i, k ≤ i → cov l i = false := by
  intro i hi
  induction l with
  | nil => rfl
  | cons y r ih =>
    have h1 := h y (by simp)
    rw [cov, ih fun y hy => h y (List.mem_cons_of_mem _ hy)]
    simp
    omega
/-- start: .word 7, start ; seven / .equ k 9 -/
def wake1 : List UInt8 := [115, 116, 97, 114, 116, 58, 32, 46, 119, 111, 114, 100, 32, 55, 44, 32, 115, 116, 97, 114, 116, 32, 59, 32, 115, 101, 118, 101, 110, 10, 46, 101, 113, 117, 32, 107, 32, 57, 10]
/-- .word 7 / .org 2 / .byte 1 -/
def wake2 : List UInt8 := [46, 119, 111, 114, 100, 32, 55, 10, 46, 111, 114, 103, 32, 50, 10, 46, 98, 121, 116, 101, 32, 49, 10]
theorem w1_e : NM.lE wake1 = 0 := by kernel_rfl
theorem w1_f : first (NM.lL wake1) 0 ⟨[], 0, []⟩ = (0, 0, ⟨[(tStart, 0), ([107], 9)], 8, [⟨2, 1, 0, 8, [[55], tStart]⟩]⟩) := by kernel_rfl
theorem w2_e : NM.lE wake2 = 0 := by kernel_rfl
theorem w2_f : (first (NM.lL wake2) 0 ⟨[], 0, []⟩).1 = 7 ∧ (first (NM.lL wake2) 0 ⟨[], 0, []⟩).2.1 = 3 := ⟨by kernel_rfl, by kernel_rfl⟩
theorem w1_g : second [(tStart, 0), ([107], 9)] [⟨2, 1, 0, 8, [[55], tStart]⟩] (fun _ => 0) = (0, 0, wr (fun _ => 0) 0 [7, 0, 0, 0, 0, 0, 0, 0]) := by
  rw [second_ok (by kernel_rfl), show (itB [(tStart, 0), ([107], 9)] ⟨2, 1, 0, 8, [[55], tStart]⟩).2 = [7, 0, 0, 0, 0, 0, 0, 0] by kernel_rfl]
  rfl
theorem asm_w1 : asm wake1 = ⟨0, [(0, [7, 0, 0, 0, 0, 0, 0, 0])], [(tStart, 0), ([107], 9)], 0, 0⟩ := by
  unfold asm
  rw [if_pos w1_e, w1_f, if_pos rfl]
  simp only []
  rw [w1_g, if_pos rfl]
  have e : segs (cov [⟨2, 1, 0, 8, [[55], tStart]⟩]) (wr (fun _ => 0) 0 [7, 0, 0, 0, 0, 0, 0, 0]) 16384 = [(0, [7, 0, 0, 0, 0, 0, 0, 0])] := by
    rw [segs_low (k := 8) (by decide) fun i h1 _ => cov_high (k := 8) (by simp) i h1]
    kernel_rfl
  rw [e]
  rfl
theorem asm_w2 : asm wake2 = ⟨0, [], [], 3, 7⟩ := by
  unfold asm
  rw [if_pos w2_e, w2_f.1, w2_f.2, if_neg (by decide)]
end AS
end Go.Proofs.YtcnmnkgnaknpdaaGreatDoor
