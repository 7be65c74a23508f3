/-
  What Stops answers, of package trap and of the reference.
-/
import Derived.Test.YtfdcnbhnegdlfaaWalkD
namespace Go.Proofs.Ytfdcnbhnegdlfaa
open Go.RowKit S01 S10 S11
theorem st_kernel {f : Nat → Int} {p : Int} (hk : CM.km f = true) : TR.st f p = false := by unfold TR.st; rw [hk]; rfl
theorem st_user {f : Nat → Int} {p : Int} {b : Bool} (hk : CM.km f = false) (h : decide (p % 2 = 0 ∧ f 28 = p + 1) = b) : TR.st f p = b := by unfold TR.st; rw [hk, h]; rfl
set_option maxHeartbeats 400000 in
theorem stops_kernel (f : Nat → Int) (h : Bool) (p : Int) (w : World) (hf : CM.Ok f) (_hp : CM.Wd p) (hk : CM.km f = true) :
    Calls Try.prog 14 #[AR f h, .int .u32 p] w fun e w' => e = .returned (.bool (TR.st f p)) ∧ Below w.heap.size w w' := by
  have HK := Lib.hid (fun W => kernel_any f h W hf)
  rw [st_kernel hk]
  rw [hk] at HK
  clear hk
  unfold AR at HK ⊢
  go_enter Try.func14, Try.ntmps14
  go_upto_region 1 with fail
  have L1 := Lib.hid (Bk.new w f h)
  have B1 := Lib.hid (below_one w (.cells (AC f h).toArray 26))
  generalize World.alloc w _ = W1 at L1 B1 ⊢
  have R1 := Lib.hid L1.out.range
  go_wp2_with (first | (refine wpList_load_mid rfl 26 _ rfl w.heap.size 0 rfl (AC f h) _ R1.out Try.underlying26 rfl (by kernel_rfl) ?_) | (go_at_call 18; (with_reducible refine (HK.out _).mono ?_); rintro e w2 ⟨rfl, hb⟩; have B2 := Lib.hid (below_then B1.out hb); clear hb))
  go_ret
  exact ⟨rfl, B2.out⟩
set_option maxHeartbeats 400000 in
theorem stops_odd (f : Nat → Int) (h : Bool) (p : Int) (w : World) (hf : CM.Ok f) (hp : CM.Wd p) (hk : CM.km f = false) (ho : TR.hs p 1 = true) :
    Calls Try.prog 14 #[AR f h, .int .u32 p] w fun e w' => e = .returned (.bool (TR.st f p)) ∧ Below w.heap.size w w' := by
  have HK := Lib.hid (fun W => kernel_any f h W hf)
  have HH := Lib.hid (fun W => has_any p 1 W hp (.inl rfl))
  have hS : TR.st f p = false := st_user hk (decide_eq_false (by
    unfold TR.hs at ho
    rw [Int.ediv_one] at ho
    have := of_decide_eq_true ho
    omega))
  rw [hS]
  rw [hk] at HK
  rw [ho] at HH
  clear hk ho hS
  unfold AR at HK ⊢
  go_enter Try.func14, Try.ntmps14
  go_upto_region 1 with fail
  have L1 := Lib.hid (Bk.new w f h)
  have B1 := Lib.hid (below_one w (.cells (AC f h).toArray 26))
  generalize World.alloc w _ = W1 at L1 B1 ⊢
  have R1 := Lib.hid L1.out.range
  go_wp2_with (first | (refine wpList_load_mid rfl 26 _ rfl w.heap.size 0 rfl (AC f h) _ R1.out Try.underlying26 rfl (by kernel_rfl) ?_) | (go_at_call 18; (with_reducible refine (HK.out _).mono ?_); rintro e w2 ⟨rfl, hb⟩; have B2 := Lib.hid (below_then B1.out hb); clear hb) | (go_at_call 24; (with_reducible refine (HH.out _).mono ?_); rintro e w3 ⟨rfl, rfl⟩))
  go_ret
  exact ⟨rfl, B2.out⟩
set_option maxHeartbeats 400000 in
theorem stops_even (f : Nat → Int) (h : Bool) (p : Int) (w : World) (hf : CM.Ok f) (hp : CM.Wd p) (hk : CM.km f = false) (ho : TR.hs p 1 = false) :
    Calls Try.prog 14 #[AR f h, .int .u32 p] w fun e w' => e = .returned (.bool (TR.st f p)) ∧ Below w.heap.size w w' := by
  have HK := Lib.hid (fun W => kernel_any f h W hf)
  have HH := Lib.hid (fun W => has_any p 1 W hp (.inl rfl))
  have hev : p % 2 = 0 := by
    unfold TR.hs at ho
    rw [Int.ediv_one] at ho
    have := of_decide_eq_false ho
    omega
  have HE : Hid (TR.st f p = (f 28 == p + 1)) := Lib.hid (st_user hk (by
    rw [show (f 28 == p + 1) = decide (f 28 = p + 1) from rfl]
    apply decide_eq_decide.2
    exact ⟨fun h => h.2, fun h => ⟨hev, h⟩⟩))
  have e1 : bits .or .u32 p 1 = p + 1 := by rw [or_oq p 1 hp ⟨by decide, by decide⟩]; exact TR.or_pc p hp hev
  obtain ⟨p0, p1⟩ := hp
  generalize TR.st f p = y at HE ⊢
  rw [hk] at HK
  rw [ho] at HH
  clear hk ho hev
  unfold AR at HK ⊢
  go_enter Try.func14, Try.ntmps14
  go_upto_region 1 with fail
  have L1 := Lib.hid (Bk.new w f h)
  have B1 := Lib.hid (below_one w (.cells (AC f h).toArray 26))
  generalize World.alloc w _ = W1 at L1 B1 ⊢
  have R1 := Lib.hid L1.out.range
  go_wp2_with (first | (refine wpList_load_mid rfl 26 _ rfl w.heap.size 0 rfl (AC f h) _ R1.out Try.underlying26 rfl (by kernel_rfl) ?_) | (go_at_call 18; (with_reducible refine (HK.out _).mono ?_); rintro e w2 ⟨rfl, hb⟩; have B2 := Lib.hid (below_then B1.out hb); have c0 := (L1.out.below hb).cell (k := 28) (by decide); clear hb) | (go_at_call 24; (with_reducible refine (HH.out _).mono ?_); rintro e w3 ⟨rfl, rfl⟩))
  go_ret
  exact ⟨ret_bool HE.out.symm, B2.out⟩
theorem stops_any (f : Nat → Int) (h : Bool) (p : Int) (w : World) (hf : CM.Ok f) (hp : CM.Wd p) :
    Calls Try.prog 14 #[AR f h, .int .u32 p] w fun e w' => e = .returned (.bool (TR.st f p)) ∧ Below w.heap.size w w' := by
  by_cases hk : CM.km f = true
  · exact stops_kernel f h p w hf hp hk
  · by_cases ho : TR.hs p 1 = true
    · exact stops_odd f h p w hf hp (by simpa using hk) ho
    · exact stops_even f h p w hf hp (by simpa using hk) (by simpa using ho)
set_option maxHeartbeats 400000 in
theorem rstops_kernel (f : Nat → Int) (h : Bool) (p : Int) (w : World) (hf : CM.Ok f) (_hp : CM.Wd p) (hk : CM.km f = true) :
    Calls Try.prog 15 #[AR f h, .int .u32 p] w fun e w' => e = .returned (.bool (TR.st f p)) ∧ Below w.heap.size w w' := by
  have HK := Lib.hid (fun W => rkernel_any f h W hf)
  rw [st_kernel hk]
  rw [hk] at HK
  clear hk
  unfold AR at HK ⊢
  go_enter Try.func15, Try.ntmps15
  go_upto_region 1 with fail
  have L1 := Lib.hid (Bk.new w f h)
  have B1 := Lib.hid (below_one w (.cells (AC f h).toArray 26))
  generalize World.alloc w _ = W1 at L1 B1 ⊢
  have R1 := Lib.hid L1.out.range
  go_wp2_with (first | (refine wpList_load_mid rfl 26 _ rfl w.heap.size 0 rfl (AC f h) _ R1.out Try.underlying26 rfl (by kernel_rfl) ?_) | (go_at_call 25; (with_reducible refine (HK.out _).mono ?_); rintro e w2 ⟨rfl, hb⟩; have B2 := Lib.hid (below_then B1.out hb); clear hb))
  go_ret
  exact ⟨rfl, B2.out⟩
set_option maxHeartbeats 400000 in
theorem rstops_user (f : Nat → Int) (h : Bool) (p : Int) (w : World) (hf : CM.Ok f) (hp : CM.Wd p) (hk : CM.km f = false) (d : Bool) (hd : (f 28 % 2 == 1) = d) :
    Calls Try.prog 15 #[AR f h, .int .u32 p] w fun e w' => e = .returned (.bool (TR.st f p)) ∧ Below w.heap.size w w' := by
  have HK := Lib.hid (fun W => rkernel_any f h W hf)
  have HE : Hid (TR.st f p = (d && (f 28 - 1 == p))) := Lib.hid (st_user hk (by
    rw [← hd, show (f 28 % 2 == 1) = decide (f 28 % 2 = 1) from rfl, show (f 28 - 1 == p) = decide (f 28 - 1 = p) from rfl, ← Bool.decide_and]
    apply decide_eq_decide.2
    omega))
  obtain ⟨p0, p1⟩ := hp
  obtain ⟨x0, x1⟩ := hf 28 (by decide)
  have x2 : d = true → 1 ≤ f 28 := by
    rintro rfl
    have : f 28 % 2 = 1 := by simpa using hd
    omega
  generalize TR.st f p = y at HE ⊢
  rw [hk] at HK
  clear hk
  unfold AR at HK ⊢
  go_enter Try.func15, Try.ntmps15
  go_upto_region 1 with fail
  have L1 := Lib.hid (Bk.new w f h)
  have B1 := Lib.hid (below_one w (.cells (AC f h).toArray 26))
  generalize World.alloc w _ = W1 at L1 B1 ⊢
  have R1 := Lib.hid L1.out.range
  cases d
  · clear x2
    go_wp2_with (first | (refine wpList_load_mid rfl 26 _ rfl w.heap.size 0 rfl (AC f h) _ R1.out Try.underlying26 rfl (by kernel_rfl) ?_) | (go_at_call 25; (with_reducible refine (HK.out _).mono ?_); rintro e w2 ⟨rfl, hb⟩; have B2 := Lib.hid (below_then B1.out hb); have c0 := (L1.out.below hb).cell (k := 28) (by decide); clear hb))
    go_ret
    exact ⟨ret_bool HE.out.symm, B2.out⟩
  · have x3 := x2 rfl
    clear x2
    go_wp2_with (first | (refine wpList_load_mid rfl 26 _ rfl w.heap.size 0 rfl (AC f h) _ R1.out Try.underlying26 rfl (by kernel_rfl) ?_) | (go_at_call 25; (with_reducible refine (HK.out _).mono ?_); rintro e w2 ⟨rfl, hb⟩; have B2 := Lib.hid (below_then B1.out hb); have c0 := (L1.out.below hb).cell (k := 28) (by decide); clear hb))
    go_ret
    exact ⟨ret_bool HE.out.symm, B2.out⟩
theorem rstops_any (f : Nat → Int) (h : Bool) (p : Int) (w : World) (hf : CM.Ok f) (hp : CM.Wd p) :
    Calls Try.prog 15 #[AR f h, .int .u32 p] w fun e w' => e = .returned (.bool (TR.st f p)) ∧ Below w.heap.size w w' := by
  by_cases hk : CM.km f = true
  · exact rstops_kernel f h p w hf hp hk
  · exact rstops_user f h p w hf hp (by simpa using hk) _ rfl
end Go.Proofs.Ytfdcnbhnegdlfaa
