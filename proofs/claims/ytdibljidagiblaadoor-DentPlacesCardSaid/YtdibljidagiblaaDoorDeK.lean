/-
  WALKS: OnWeld, of the program and of the reference.
-/
import Derived.Test.YtdibljidagiblaaDoorDeJ
import Derived.Test.YtdibljidagiblaaDoorPmD
import Derived.LoopN
namespace Go.Proofs.YtdibljidagiblaaDoor
open Go.RowKit

/-- What decides of weld i: 1 more than its number if it is near, else 0. -/
def owAt (l m : Int) (f : Nat → Int) (i : Nat) : Int := if l ≤ f i ∧ f i ≤ m then (i : Int) + 1 else 0
/-- What OnWeld finds. -/
def owV (l m : Int) (f : Nat → Int) (n : Nat) : Int := first (owAt l m f) n - 1
def WPl (x : Int) : Prop := 0 ≤ x ∧ x ≤ 1073741824
set_option maxHeartbeats 4000000 in
theorem on1_of (v : Bool) (w : World) (p q s : Nat) (x f t b : Int) (h0 : w.cell? ⟨p, 0, none⟩ = some (.int .i64 f)) (h1 : w.cell? ⟨q, 0, none⟩ = some (.int .i64 b)) (h2 : w.cell? ⟨s, 0, none⟩ = some (.int .i64 t))
    (hf : WPl f) (ht : WPl t) (hb : WPl b) (h : v = decide (f - b ≤ x ∧ x ≤ t + b)) :
    Calls Tryd.prog 65 #[.int .i64 x, .pointer (some ⟨p, 0, none⟩), .pointer (some ⟨q, 0, none⟩), .pointer (some ⟨s, 0, none⟩)] w fun e w' => e = .returned (.bool v) ∧ w' = w := by
  unfold WPl at hf ht hb
  have e1 : IntKind.i64.wrap (f - b) = f - b := IntWalk.i64_in _ (by omega)
  have e2 : IntKind.i64.wrap (t + b) = t + b := IntWalk.i64_in _ (by omega)
  go_enter Tryd.func65, Tryd.ntmps65
  by_cases h3 : f - b ≤ x
  · by_cases h4 : x ≤ t + b
    · obtain rfl : v = true := by rw [h, decide_eq_true_iff]; omega
      clear h
      go_wp2
      go_ret
      exact ⟨rfl, rfl⟩
    · obtain rfl : v = false := by rw [h, decide_eq_false_iff_not]; omega
      clear h
      go_wp2
      go_ret
      refine ⟨?_, rfl⟩
      first | rfl | (congr 2; simp; omega)
  · obtain rfl : v = false := by rw [h, decide_eq_false_iff_not]; omega
    clear h
    go_wp2
    go_ret
    exact ⟨rfl, rfl⟩

set_option maxRecDepth 100000 in
set_option maxHeartbeats 4000000 in
theorem ixw_of (w : World) (p q s n c : Nat) (a : Option Addr) (g : Nat → Int) (f t b : Int) (hn : n ≤ 64) (h0 : w.cell? ⟨p, 0, none⟩ = some (.int .i64 f)) (h1 : w.cell? ⟨q, 0, none⟩ = some (.int .i64 b)) (h2 : w.cell? ⟨s, 0, none⟩ = some (.int .i64 t))
    (hf : WPl f) (ht : WPl t) (hb : WPl b) (hS : Sl w 1 a n g) :
    Calls Tryd.prog 64 #[.slice a n c, .func (.func 65) #[] #[.pointer (some ⟨p, 0, none⟩), .pointer (some ⟨q, 0, none⟩), .pointer (some ⟨s, 0, none⟩)]] w fun e w' => e = .returned (.int .i64 (owV (f - b) (t + b) g n)) ∧ w' = w := by
  have HS := Lib.hid hS
  have HO : Hid (∀ (v : Bool) (x : Int), v = decide (f - b ≤ x ∧ x ≤ t + b) → Calls Tryd.prog 65 #[.int .i64 x, .pointer (some ⟨p, 0, none⟩), .pointer (some ⟨q, 0, none⟩), .pointer (some ⟨s, 0, none⟩)] w fun e w' => e = .returned (.bool v) ∧ w' = w) := fun v x h => on1_of v w p q s x f t b h0 h1 h2 hf ht hb h
  obtain ⟨l, hl⟩ : ∃ l, f - b = l := ⟨_, rfl⟩
  obtain ⟨m, hm⟩ : ∃ m, t + b = m := ⟨_, rfl⟩
  rw [hl, hm] at HO ⊢
  clear hS h0 h1 h2 hf ht hb hl hm
  go_enter Tryd.func64, Tryd.ntmps64
  go_wp2_with fail
  go_loopw [8] (fun vi wr => ∃ i : Nat, i ≤ n ∧ vi = .int .i64 i ∧ Hid (∀ j, j < i → owAt l m g j = 0) ∧ wr = w) (fun vi _ => n - (intOf vi).toNat)
  case atStart => exact ⟨0, by omega, rfl, fun j hj => by omega, rfl⟩
  case round =>
    obtain ⟨i, hi, rfl, HI, rfl⟩ := hrel
    by_cases hlt : i < n
    · obtain ⟨b3, o3, rfl, hI3⟩ := HS.out (by omega)
      have d0 := hI3 i (by omega)
      have hC := fun v => HO.out v (g i)
      have hv : owAt l m g i = if l ≤ g i ∧ g i ≤ m then (i : Int) + 1 else 0 := rfl
      generalize g i = x at d0 hv hC
      have HV := Lib.hid hv
      have HC := Lib.hid hC
      clear hI3 hv hC
      by_cases hin : l ≤ x ∧ x ≤ m
      · have HH : Hid (l ≤ x ∧ x ≤ m) := hin
        clear hin
        go_wp2_with fail
        refine (HC.out true (by symm; rw [decide_eq_true_iff]; exact HH.out)).mono ?_
        rintro e w9 ⟨rfl, rfl⟩
        go_wp2_with fail
        have hv : owAt l m g i = (i : Int) + 1 := by rw [HV.out, if_pos HH.out]
        exact bodyPost_ret (v := .int .i64 (i : Int)) (by simp [results, Tryd.f64, go_sem]) rfl ⟨by rw [owV, first_at HI.out (by rw [hv]; omega) hlt, hv, show (i : Int) + 1 - 1 = i by omega], rfl⟩
      · have HH : Hid (¬(l ≤ x ∧ x ≤ m)) := hin
        clear hin
        go_wp2_with fail
        refine (HC.out false (by symm; rw [decide_eq_false_iff_not]; exact HH.out)).mono ?_
        rintro e w9 ⟨rfl, rfl⟩
        go_wp2_with fail
        have hv : owAt l m g i = 0 := by rw [HV.out, if_neg HH.out]
        exact ⟨⟨i + 1, by omega, by go_num, (fun j hj => by
          by_cases ej : j = i
          · subst ej; exact hv
          · exact HI.out j (by omega)), by first | rfl | trivial⟩, by simp [intOf]; omega⟩
    · obtain rfl : i = n := by omega
      go_wp2_with fail
      exact bodyPost_ret (v := .int .i64 (-1)) (by simp [results, Tryd.f64, go_sem]) rfl ⟨by rw [owV, first_zero HI.out]; rfl, rfl⟩

/-- The worlds in which OnWeld walks. -/
structure OwW (w W : World) (f t b : Int) (a : Option Addr) (n : Nat) (g : Nat → Int) : Prop where
  c0 : W.cell? ⟨w.heap.size, 0, none⟩ = some (.int .i64 f)
  c1 : W.cell? ⟨w.heap.size + 1, 0, none⟩ = some (.int .i64 t)
  c2 : W.cell? ⟨w.heap.size + 1 + 1, 0, none⟩ = some (.int .i64 b)
  hS : Sl W 1 a n g
  hB : Below w.heap.size w W
theorem oww (w : World) (f t b : Int) (a : Option Addr) (n : Nat) (g : Nat → Int) (hS : Sl w 1 a n g) : OwW w (((w.alloc (.cells #[.int .i64 f] 3)).alloc (.cells #[.int .i64 t] 3)).alloc (.cells #[.int .i64 b] 3)) f t b a n g := by
  have hB : Below w.heap.size w (((w.alloc (.cells #[.int .i64 f] 3)).alloc (.cells #[.int .i64 t] 3)).alloc (.cells #[.int .i64 b] 3)) := (((Below.refl _ _).alloc (Nat.le_refl _) _).alloc (by simp) _).alloc (by simp; omega) _
  exact ⟨cell_h (al_old (al_old (World.alloc_heap_new w _) _) _) rfl, cell_h (al_old (al_1 w _ _) _) rfl, cell_h (al_2 w _ _ _) rfl, hS.keep (by decide) hB, hB⟩

/-- What OnWeld returns. -/
def owR (f t b : Int) (n : Nat) (g : Nat → Int) : Int × Int :=
  if 64 < n then (0, 4) else if ¬(0 ≤ f ∧ f ≤ 1073741824) ∨ ¬(0 ≤ t ∧ t ≤ 1073741824) ∨ ¬(0 ≤ b ∧ b ≤ 1073741824) then (0, 1) else if t < f then (0, 7) else (owV (f - b) (t + b) g n, 0)

set_option maxRecDepth 100000 in
set_option maxHeartbeats 8000000 in
theorem onweld_of (w : World) (a : Option Addr) (n c : Nat) (g : Nat → Int) (f t b : Int) (hn : n ≤ 70) (hS : Sl w 1 a n g) :
    Calls Tryd.prog 24 #[.slice a n c, .int .i64 f, .int .i64 t, .int .i64 b] w fun e w' => e = .returned (.tuple #[.int .i64 (owR f t b n g).1, .int .i64 (owR f t b n g).2]) ∧ Below w.heap.size w w' := by
  have HO := Lib.hid (oww w f t b a n g hS)
  obtain ⟨v, hv⟩ : ∃ v, owR f t b n g = v := ⟨_, rfl⟩
  rw [hv]
  have HV := Lib.hid hv
  clear hS hv
  go_enter Tryd.func24, Tryd.ntmps24
  by_cases h1 : 64 < n
  · have hv : v = (0, 4) := by rw [← HV.out, owR, if_pos h1]
    subst hv
    clear HV
    go_wp2_with fail
    go_ret2
    exact ⟨rfl, HO.out.hB⟩
  have HV1 : Hid (v = if ¬(0 ≤ f ∧ f ≤ 1073741824) ∨ ¬(0 ≤ t ∧ t ≤ 1073741824) ∨ ¬(0 ≤ b ∧ b ≤ 1073741824) then (0, 1) else if t < f then (0, 7) else (owV (f - b) (t + b) g n, 0)) := by rw [← HV.out, owR, if_neg h1]; exact Lib.hid rfl
  clear HV
  have i0 : ∀ w, (Instr.index 84 (.agg #[.int .i64 f, .int .i64 t, .int .i64 b]) (.int .i64 0)).run Tryd.prog w = .ok (.int .i64 f) w := fun _ => by kernel_rfl
  have i1 : ∀ w, (Instr.index 84 (.agg #[.int .i64 f, .int .i64 t, .int .i64 b]) (.int .i64 1)).run Tryd.prog w = .ok (.int .i64 t) w := fun _ => by kernel_rfl
  have i2 : ∀ w, (Instr.index 84 (.agg #[.int .i64 f, .int .i64 t, .int .i64 b]) (.int .i64 2)).run Tryd.prog w = .ok (.int .i64 b) w := fun _ => by kernel_rfl
  by_cases hc : ¬(0 ≤ f ∧ f ≤ 1073741824) ∨ ¬(0 ≤ t ∧ t ≤ 1073741824) ∨ ¬(0 ≤ b ∧ b ≤ 1073741824)
  · have hv : v = (0, 1) := by rw [HV1.out, if_pos hc]
    subst hv
    clear HV1
    rcases (by omega : f < 0 ∨ (0 ≤ f ∧ 1073741824 < f) ∨ ((0 ≤ f ∧ f ≤ 1073741824) ∧ t < 0) ∨ ((0 ≤ f ∧ f ≤ 1073741824) ∧ 0 ≤ t ∧ 1073741824 < t) ∨ ((0 ≤ f ∧ f ≤ 1073741824) ∧ (0 ≤ t ∧ t ≤ 1073741824) ∧ b < 0) ∨ ((0 ≤ f ∧ f ≤ 1073741824) ∧ (0 ≤ t ∧ t ≤ 1073741824) ∧ 0 ≤ b ∧ 1073741824 < b)) with h2 | h2 | h2 | h2 | h2 | h2
    · clear hc
      go_wp2_with fail
      refine wp_loop_rounds 1 ?_
      rw [rounds_succ]
      go_wp2_with fail
      (try simp only [Exit.inBlock, Exit.then])
      go_ret2
      exact ⟨rfl, HO.out.hB⟩
    · clear hc
      go_wp2_with fail
      refine wp_loop_rounds 1 ?_
      rw [rounds_succ]
      go_wp2_with fail
      (try simp only [Exit.inBlock, Exit.then])
      go_ret2
      exact ⟨rfl, HO.out.hB⟩
    · clear hc
      go_wp2_with fail
      refine wp_loop_rounds 2 ?_
      rw [rounds_succ]
      go_wp2_with fail
      (try simp only [Exit.inBlock, Exit.then])
      rw [rounds_succ]
      go_wp2_with fail
      (try simp only [Exit.inBlock, Exit.then])
      go_ret2
      exact ⟨rfl, HO.out.hB⟩
    · clear hc
      go_wp2_with fail
      refine wp_loop_rounds 2 ?_
      rw [rounds_succ]
      go_wp2_with fail
      (try simp only [Exit.inBlock, Exit.then])
      rw [rounds_succ]
      go_wp2_with fail
      (try simp only [Exit.inBlock, Exit.then])
      go_ret2
      exact ⟨rfl, HO.out.hB⟩
    · clear hc
      go_wp2_with fail
      refine wp_loop_rounds 3 ?_
      rw [rounds_succ]
      go_wp2_with fail
      (try simp only [Exit.inBlock, Exit.then])
      rw [rounds_succ]
      go_wp2_with fail
      (try simp only [Exit.inBlock, Exit.then])
      rw [rounds_succ]
      go_wp2_with fail
      (try simp only [Exit.inBlock, Exit.then])
      go_ret2
      exact ⟨rfl, HO.out.hB⟩
    · clear hc
      go_wp2_with fail
      refine wp_loop_rounds 3 ?_
      rw [rounds_succ]
      go_wp2_with fail
      (try simp only [Exit.inBlock, Exit.then])
      rw [rounds_succ]
      go_wp2_with fail
      (try simp only [Exit.inBlock, Exit.then])
      rw [rounds_succ]
      go_wp2_with fail
      (try simp only [Exit.inBlock, Exit.then])
      go_ret2
      exact ⟨rfl, HO.out.hB⟩
  have HV2 : Hid (v = if t < f then (0, 7) else (owV (f - b) (t + b) g n, 0)) := by rw [HV1.out, if_neg hc]; exact Lib.hid rfl
  have h2 : (0 ≤ f ∧ f ≤ 1073741824) ∧ (0 ≤ t ∧ t ≤ 1073741824) ∧ 0 ≤ b ∧ b ≤ 1073741824 := by omega
  clear HV1
  by_cases h3 : t < f
  · have hv : v = (0, 7) := by rw [HV2.out, if_pos h3]
    subst hv
    clear HV2
    clear hc
    go_wp2_with fail
    refine wp_loop_rounds 4 ?_
    rw [rounds_succ]
    go_wp2_with fail
    (try simp only [Exit.inBlock, Exit.then])
    rw [rounds_succ]
    go_wp2_with fail
    (try simp only [Exit.inBlock, Exit.then])
    rw [rounds_succ]
    go_wp2_with fail
    (try simp only [Exit.inBlock, Exit.then])
    rw [rounds_succ]
    go_wp2_with fail
    (try simp only [Exit.inBlock, Exit.then])
    go_ret2
    exact ⟨rfl, HO.out.hB⟩
  · have hv : v = (owV (f - b) (t + b) g n, 0) := by rw [HV2.out, if_neg h3]
    subst hv
    clear HV2
    have HI : Hid (Calls Tryd.prog 64 #[.slice a n c, .func (.func 65) #[] #[.pointer (some ⟨w.heap.size, 0, none⟩), .pointer (some ⟨w.heap.size + 2, 0, none⟩), .pointer (some ⟨w.heap.size + 1, 0, none⟩)]] (((w.alloc (.cells #[.int .i64 f] 3)).alloc (.cells #[.int .i64 t] 3)).alloc (.cells #[.int .i64 b] 3)) fun e w' => e = .returned (.int .i64 (owV (f - b) (t + b) g n)) ∧ w' = (((w.alloc (.cells #[.int .i64 f] 3)).alloc (.cells #[.int .i64 t] 3)).alloc (.cells #[.int .i64 b] 3))) := ixw_of _ _ _ _ n c a g f t b (by omega) HO.out.c0 HO.out.c2 HO.out.c1 h2.1 h2.2.1 h2.2.2 HO.out.hS
    generalize owV (f - b) (t + b) g n = V at HI ⊢
    clear hc
    go_wp2_with fail
    refine wp_loop_rounds 4 ?_
    rw [rounds_succ]
    go_wp2_with fail
    (try simp only [Exit.inBlock, Exit.then])
    rw [rounds_succ]
    go_wp2_with fail
    (try simp only [Exit.inBlock, Exit.then])
    rw [rounds_succ]
    go_wp2_with fail
    (try simp only [Exit.inBlock, Exit.then])
    rw [rounds_succ]
    go_wp2_with fail
    (try simp only [Exit.inBlock, Exit.then])
    refine HI.out.mono ?_
    rintro e w9 ⟨rfl, rfl⟩
    go_wp2_with fail
    go_ret2
    exact ⟨rfl, HO.out.hB⟩
end Go.Proofs.YtdibljidagiblaaDoor
