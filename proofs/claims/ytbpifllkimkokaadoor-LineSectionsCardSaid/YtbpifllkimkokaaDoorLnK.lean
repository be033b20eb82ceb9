/-
  WALKS: Passes, by the program and by the reference.
-/
import Derived.Test.YtbpifllkimkokaaDoorLnJ
import Derived.StillTailTactics
import Derived.LoopN
namespace Go.Proofs.YtbpifllkimkokaaDoor
open Go.RowKit

theorem chk_ok {n nz nl : Nat} {f z m : Nat → Int} (h : chk n nz nl f z m = 0) :
    (1 ≤ n ∧ n ≤ 64) ∧ nz ≤ 64 ∧ nl ≤ 64 ∧ (∀ i, i < n → itAt f i = 0) ∧ (∀ i, i < nz → znAt z (endS f n) i = 0) ∧ (∀ i, i < nl → lmAt m (endS f n) i = 0) := by
  unfold chk at h
  split at h
  · omega
  · rename_i h0
    split at h
    · omega
    · rename_i h1
      split at h
      · omega
      · rename_i h2
        exact ⟨by omega, by omega, by omega, first_all (by omega), first_all (by omega), first_all h⟩

/-- Whether a tool's four numbers are right. -/
def tOk (S T N Q : Int) : Bool := decide ((1 ≤ S ∧ S ≤ 16777216) ∧ (1 ≤ T ∧ T ≤ 16777216) ∧ (1 ≤ N ∧ N ≤ 16777216) ∧ (1 ≤ Q ∧ Q ≤ 16777216))

theorem tOk_ways (b1 b2 b3 b4 : Bool) (S T N Q : Int) (h1 : b1 = decide (1 ≤ S ∧ S ≤ 16777216)) (h2 : b2 = decide (1 ≤ T ∧ T ≤ 16777216)) (h3 : b3 = decide (1 ≤ N ∧ N ≤ 16777216)) (h4 : b4 = decide (1 ≤ Q ∧ Q ≤ 16777216)) :
    (b1 = false ∧ tOk S T N Q = false) ∨ (b1 = true ∧ b2 = false ∧ tOk S T N Q = false) ∨ (b1 = true ∧ b2 = true ∧ b3 = false ∧ tOk S T N Q = false) ∨
    (b1 = true ∧ b2 = true ∧ b3 = true ∧ b4 = false ∧ tOk S T N Q = false) ∨
    (b1 = true ∧ b2 = true ∧ b3 = true ∧ b4 = true ∧ ((1 ≤ S ∧ S ≤ 16777216) ∧ (1 ≤ T ∧ T ≤ 16777216) ∧ (1 ≤ N ∧ N ≤ 16777216) ∧ (1 ≤ Q ∧ Q ≤ 16777216)) ∧ tOk S T N Q = true) := by
  unfold tOk
  by_cases p1 : 1 ≤ S ∧ S ≤ 16777216
  · by_cases p2 : 1 ≤ T ∧ T ≤ 16777216
    · by_cases p3 : 1 ≤ N ∧ N ≤ 16777216
      · by_cases p4 : 1 ≤ Q ∧ Q ≤ 16777216
        · simp [h1, h2, h3, h4, p1, p2, p3, p4]
        · simp only [h1, h2, h3, h4, p1, p2, p3, p4]; simp
      · simp only [h1, h2, h3, p1, p2, p3]; simp
    · simp only [h1, h2, p1, p2]; simp
  · simp only [h1, p1]; simp

/-- What Passes hands back: E the error of the line, B whether the tool's numbers are right, k the first item. -/
def PsP (E : Int) (B : Bool) (k : Int) (w : World) (e : Ending) (w' : World) : Prop :=
  Below w.heap.size w w' ∧ ((E ≠ 0 ∧ e = .returned (.tuple #[.int .i64 0, .int .i64 E])) ∨ (E = 0 ∧ B = false ∧ e = .returned (.tuple #[.int .i64 0, .int .i64 21])) ∨
    (E = 0 ∧ B = true ∧ e = .returned (.tuple #[.int .i64 k, .int .i64 0])))

set_option maxRecDepth 8000 in
set_option maxHeartbeats 3200000 in
theorem lpasses_of (w : World) (a za la : Option Addr) (n c nz zc nl lc : Nat) (f z m : Nat → Int) (S T N Q : Int) (hS : Sl w 7 a n f) (hZ : Sl w 3 za nz z) (hL : Sl w 2 la nl m) :
    Calls Tryd.prog 34 #[.agg #[.slice a n c, .slice za nz zc, .slice la nl lc], .agg #[.int .i64 S, .int .i64 T, .int .i64 N, .int .i64 Q]] w (PsP (chk n nz nl f z m) (tOk S T N Q) (firstNot (psAt f S T N Q) n) w) := by
  have HCK : Hid (∀ w', Below w.heap.size w w' → Calls Tryd.prog 56 #[.agg #[.slice a n c, .slice za nz zc, .slice la nl lc]] w' fun e' w2 => e' = .returned (.int .i64 (chk n nz nl f z m)) ∧ Below w'.heap.size w' w2) :=
    fun w' hb => check_of w' a za la n c nz zc nl lc f z m (hS.keep (by omega) hb) (hZ.keep (by omega) hb) (hL.keep (by omega) hb)
  have HOK : Hid (chk n nz nl f z m = 0 → (1 ≤ n ∧ n ≤ 64) ∧ nz ≤ 64 ∧ nl ≤ 64 ∧ (∀ i, i < n → itAt f i = 0) ∧ (∀ i, i < nz → znAt z (endS f n) i = 0) ∧ (∀ i, i < nl → lmAt m (endS f n) i = 0)) := chk_ok
  have HS := Lib.hid hS
  clear hS hZ hL
  generalize chk n nz nl f z m = E at HCK HOK ⊢
  obtain ⟨b1, h1⟩ : ∃ b : Bool, b = decide (1 ≤ S ∧ S ≤ 16777216) := ⟨_, rfl⟩
  obtain ⟨b2, h2⟩ : ∃ b : Bool, b = decide (1 ≤ T ∧ T ≤ 16777216) := ⟨_, rfl⟩
  obtain ⟨b3, h3⟩ : ∃ b : Bool, b = decide (1 ≤ N ∧ N ≤ 16777216) := ⟨_, rfl⟩
  obtain ⟨b4, h4⟩ : ∃ b : Bool, b = decide (1 ≤ Q ∧ Q ≤ 16777216) := ⟨_, rfl⟩
  have HW := tOk_ways b1 b2 b3 b4 S T N Q h1 h2 h3 h4
  have H1 := Lib.hid h1
  have H2 := Lib.hid h2
  have H3 := Lib.hid h3
  have H4 := Lib.hid h4
  clear h1 h2 h3 h4
  generalize tOk S T N Q = B at HW ⊢
  have i0 : ∀ w, (Instr.index 130 (.agg #[.int .i64 S, .int .i64 T, .int .i64 N, .int .i64 Q]) (.int .i64 0)).run Tryd.prog w = .ok (.int .i64 S) w := fun _ => by kernel_rfl
  have i1 : ∀ w, (Instr.index 130 (.agg #[.int .i64 S, .int .i64 T, .int .i64 N, .int .i64 Q]) (.int .i64 1)).run Tryd.prog w = .ok (.int .i64 T) w := fun _ => by kernel_rfl
  have i2 : ∀ w, (Instr.index 130 (.agg #[.int .i64 S, .int .i64 T, .int .i64 N, .int .i64 Q]) (.int .i64 2)).run Tryd.prog w = .ok (.int .i64 N) w := fun _ => by kernel_rfl
  have i3 : ∀ w, (Instr.index 130 (.agg #[.int .i64 S, .int .i64 T, .int .i64 N, .int .i64 Q]) (.int .i64 3)).run Tryd.prog w = .ok (.int .i64 Q) w := fun _ => by kernel_rfl
  go_enter Tryd.func34, Tryd.ntmps34
  go_wp2_with fail
  obtain ⟨W, hW⟩ : ∃ W, W = (w.alloc (.cells #[.slice a n c, .slice za nz zc, .slice la nl lc] 26)).alloc (.cells #[.int .i64 S, .int .i64 T, .int .i64 N, .int .i64 Q] 63) := ⟨_, rfl⟩
  have hBW : Hid (Below w.heap.size w W) := by rw [hW]; exact ((Below.refl _ _).alloc (Nat.le_refl _) _).alloc (by simp) _
  have hsz : W.heap.size = w.heap.size + 2 := by rw [hW]; simp
  have x0 : W.cell? ⟨w.heap.size, 0, none⟩ = some (.slice a n c) := by rw [hW]; go_simp
  have t0 : W.cell? ⟨w.heap.size + 1, 0, none⟩ = some (.int .i64 S) := by rw [hW]; go_simp
  have t1 : W.cell? ⟨w.heap.size + 1, 1, none⟩ = some (.int .i64 T) := by rw [hW]; go_simp
  have t2 : W.cell? ⟨w.heap.size + 1, 2, none⟩ = some (.int .i64 N) := by rw [hW]; go_simp
  have t3 : W.cell? ⟨w.heap.size + 1, 3, none⟩ = some (.int .i64 Q) := by rw [hW]; go_simp
  rw [← hW]
  clear hW
  refine (HCK.out W hBW.out).mono ?_
  rintro e' w2 ⟨rfl, hb2⟩
  have hx : ∀ b o, b < W.heap.size → w2.cell? ⟨b, o, none⟩ = W.cell? ⟨b, o, none⟩ := fun b o h => hb2.cell (p := ⟨b, o, none⟩) h
  have y0 := (hx w.heap.size 0 (by omega)).trans x0
  have y1 := (hx (w.heap.size + 1) 0 (by omega)).trans t0
  have y2 := (hx (w.heap.size + 1) 1 (by omega)).trans t1
  have y3 := (hx (w.heap.size + 1) 2 (by omega)).trans t2
  have y4 := (hx (w.heap.size + 1) 3 (by omega)).trans t3
  have hs2 := hb2.size
  have HB2 : Hid (Below w.heap.size w w2) := hBW.out.trans (hb2.mono (by omega))
  clear hb2 hx x0 t0 t1 t2 t3
  by_cases hE : E = 0
  · subst hE
    have hok := HOK.out rfl
    have HV : Hid (∀ i, i < n → itAt f i = 0) := hok.2.2.2.1
    have hn : n ≤ 64 := hok.1.2
    clear hok
    rcases HW with ⟨rfl, rfl⟩ | ⟨rfl, rfl, rfl⟩ | ⟨rfl, rfl, rfl, rfl⟩ | ⟨rfl, rfl, rfl, rfl, rfl⟩ | ⟨rfl, rfl, rfl, rfl, hr, rfl⟩
    · go_wp2
      refine wp_loop_rounds 1 ?_
      rw [rounds_succ]
      go_wp2_with (go_at_call 62; refine (betw _ _ _ _ _ (by first | exact H1.out | exact H2.out | exact H3.out | exact H4.out)).mono ?_; rintro e' w' ⟨rfl, rfl⟩)
      (try simp only [Exit.inBlock, Exit.then])
      go_ret2
      exact ⟨HB2.out, .inr (.inl ⟨rfl, rfl, rfl⟩)⟩
    · go_wp2
      refine wp_loop_rounds 2 ?_
      rw [rounds_succ]
      go_wp2_with (go_at_call 62; refine (betw _ _ _ _ _ (by first | exact H1.out | exact H2.out | exact H3.out | exact H4.out)).mono ?_; rintro e' w' ⟨rfl, rfl⟩)
      (try simp only [Exit.inBlock, Exit.then])
      rw [rounds_succ]
      go_wp2_with (go_at_call 62; refine (betw _ _ _ _ _ (by first | exact H1.out | exact H2.out | exact H3.out | exact H4.out)).mono ?_; rintro e' w' ⟨rfl, rfl⟩)
      (try simp only [Exit.inBlock, Exit.then])
      go_ret2
      exact ⟨HB2.out, .inr (.inl ⟨rfl, rfl, rfl⟩)⟩
    · go_wp2
      refine wp_loop_rounds 3 ?_
      rw [rounds_succ]
      go_wp2_with (go_at_call 62; refine (betw _ _ _ _ _ (by first | exact H1.out | exact H2.out | exact H3.out | exact H4.out)).mono ?_; rintro e' w' ⟨rfl, rfl⟩)
      (try simp only [Exit.inBlock, Exit.then])
      rw [rounds_succ]
      go_wp2_with (go_at_call 62; refine (betw _ _ _ _ _ (by first | exact H1.out | exact H2.out | exact H3.out | exact H4.out)).mono ?_; rintro e' w' ⟨rfl, rfl⟩)
      (try simp only [Exit.inBlock, Exit.then])
      rw [rounds_succ]
      go_wp2_with (go_at_call 62; refine (betw _ _ _ _ _ (by first | exact H1.out | exact H2.out | exact H3.out | exact H4.out)).mono ?_; rintro e' w' ⟨rfl, rfl⟩)
      (try simp only [Exit.inBlock, Exit.then])
      go_ret2
      exact ⟨HB2.out, .inr (.inl ⟨rfl, rfl, rfl⟩)⟩
    · go_wp2
      refine wp_loop_rounds 4 ?_
      rw [rounds_succ]
      go_wp2_with (go_at_call 62; refine (betw _ _ _ _ _ (by first | exact H1.out | exact H2.out | exact H3.out | exact H4.out)).mono ?_; rintro e' w' ⟨rfl, rfl⟩)
      (try simp only [Exit.inBlock, Exit.then])
      rw [rounds_succ]
      go_wp2_with (go_at_call 62; refine (betw _ _ _ _ _ (by first | exact H1.out | exact H2.out | exact H3.out | exact H4.out)).mono ?_; rintro e' w' ⟨rfl, rfl⟩)
      (try simp only [Exit.inBlock, Exit.then])
      rw [rounds_succ]
      go_wp2_with (go_at_call 62; refine (betw _ _ _ _ _ (by first | exact H1.out | exact H2.out | exact H3.out | exact H4.out)).mono ?_; rintro e' w' ⟨rfl, rfl⟩)
      (try simp only [Exit.inBlock, Exit.then])
      rw [rounds_succ]
      go_wp2_with (go_at_call 62; refine (betw _ _ _ _ _ (by first | exact H1.out | exact H2.out | exact H3.out | exact H4.out)).mono ?_; rintro e' w' ⟨rfl, rfl⟩)
      (try simp only [Exit.inBlock, Exit.then])
      go_ret2
      exact ⟨HB2.out, .inr (.inl ⟨rfl, rfl, rfl⟩)⟩
    · have HI := index_of w2 a n c f (w.heap.size + 1) S T N Q (by omega) HV.out (HS.out.keep (by omega) HB2.out) hr.1 hr.2.1 hr.2.2.1 hr.2.2.2 y1 y2 y3 y4
      have HI2 := Lib.hid HI
      clear HI hr
      go_wp2
      refine wp_loop_rounds 5 ?_
      rw [rounds_succ]
      go_wp2_with (go_at_call 62; refine (betw _ _ _ _ _ (by first | exact H1.out | exact H2.out | exact H3.out | exact H4.out)).mono ?_; rintro e' w' ⟨rfl, rfl⟩)
      (try simp only [Exit.inBlock, Exit.then])
      rw [rounds_succ]
      go_wp2_with (go_at_call 62; refine (betw _ _ _ _ _ (by first | exact H1.out | exact H2.out | exact H3.out | exact H4.out)).mono ?_; rintro e' w' ⟨rfl, rfl⟩)
      (try simp only [Exit.inBlock, Exit.then])
      rw [rounds_succ]
      go_wp2_with (go_at_call 62; refine (betw _ _ _ _ _ (by first | exact H1.out | exact H2.out | exact H3.out | exact H4.out)).mono ?_; rintro e' w' ⟨rfl, rfl⟩)
      (try simp only [Exit.inBlock, Exit.then])
      rw [rounds_succ]
      go_wp2_with (go_at_call 62; refine (betw _ _ _ _ _ (by first | exact H1.out | exact H2.out | exact H3.out | exact H4.out)).mono ?_; rintro e' w' ⟨rfl, rfl⟩)
      (try simp only [Exit.inBlock, Exit.then])
      rw [rounds_succ]
      go_wp2_with (go_at_call 62; refine (betw _ _ _ _ _ (by first | exact H1.out | exact H2.out | exact H3.out | exact H4.out)).mono ?_; rintro e' w' ⟨rfl, rfl⟩)
      (try simp only [Exit.inBlock, Exit.then])
      refine HI2.out.mono ?_
      rintro e' w3 ⟨rfl, hb3⟩
      have HB3 : Hid (Below w.heap.size w w3) := HB2.out.trans (hb3.mono HB2.out.size)
      clear hb3
      go_wp2
      go_ret2
      exact ⟨HB3.out, .inr (.inr ⟨rfl, rfl, rfl⟩)⟩
  · have e2 : (E == 0) = false := by simpa using hE
    have e3 : (E != 0) = true := by simpa using hE
    have HE := Lib.hid hE
    clear hE HOK
    go_wp2
    go_ret2
    exact ⟨HB2.out, .inl ⟨HE.out, rfl⟩⟩

set_option maxRecDepth 8000 in
set_option maxHeartbeats 3200000 in
theorem rpassesAll_of (w : World) (a za la : Option Addr) (n c nz zc nl lc : Nat) (f z m : Nat → Int) (S T N Q : Int) (hS : Sl w 7 a n f) (hok : chk n nz nl f z m = 0) :
    Calls Tryd.prog 35 #[.agg #[.slice a n c, .slice za nz zc, .slice la nl lc], .agg #[.int .i64 S, .int .i64 T, .int .i64 N, .int .i64 Q]] w (PsP (chk n nz nl f z m) (tOk S T N Q) (firstNot (psAt f S T N Q) n) w) := by
  have hok2 := chk_ok hok
  have HV : Hid (∀ i, i < n → itAt f i = 0) := hok2.2.2.2.1
  have hn : n ≤ 64 := hok2.1.2
  have HS := Lib.hid hS
  rw [hok]
  clear hok hok2 hS
  obtain ⟨b1, h1⟩ : ∃ b : Bool, b = decide (1 ≤ S ∧ S ≤ 16777216) := ⟨_, rfl⟩
  obtain ⟨b2, h2⟩ : ∃ b : Bool, b = decide (1 ≤ T ∧ T ≤ 16777216) := ⟨_, rfl⟩
  obtain ⟨b3, h3⟩ : ∃ b : Bool, b = decide (1 ≤ N ∧ N ≤ 16777216) := ⟨_, rfl⟩
  obtain ⟨b4, h4⟩ : ∃ b : Bool, b = decide (1 ≤ Q ∧ Q ≤ 16777216) := ⟨_, rfl⟩
  have HW := tOk_ways b1 b2 b3 b4 S T N Q h1 h2 h3 h4
  have H1 := Lib.hid h1
  have H2 := Lib.hid h2
  have H3 := Lib.hid h3
  have H4 := Lib.hid h4
  clear h1 h2 h3 h4
  generalize tOk S T N Q = B at HW ⊢
  obtain ⟨E, hE⟩ : ∃ E, E = firstNot (psAt f S T N Q) n := ⟨_, rfl⟩
  rw [← hE]
  have HE := Lib.hid hE
  clear hE
  rcases HW with ⟨rfl, rfl⟩ | ⟨rfl, rfl, rfl⟩ | ⟨rfl, rfl, rfl, rfl⟩ | ⟨rfl, rfl, rfl, rfl, rfl⟩ | ⟨rfl, rfl, rfl, rfl, hr, rfl⟩
  case inr.inr.inr.inr =>
    have HR := Lib.hid hr
    clear hr
    go_enter Tryd.func35, Tryd.ntmps35
    go_wp2_with (go_at_call 66; refine (rbetw _ _ _ _ _ (by first | exact H1.out | exact H2.out | exact H3.out | exact H4.out)).mono ?_; rintro e' w' ⟨rfl, rfl⟩)
    obtain ⟨W, hW⟩ : ∃ W, W = (w.alloc (.cells #[.slice a n c, .slice za nz zc, .slice la nl lc] 31)).alloc (.cells #[.int .i64 S, .int .i64 T, .int .i64 N, .int .i64 Q] 66) := ⟨_, rfl⟩
    have hBW : Hid (Below w.heap.size w W) := by rw [hW]; exact ((Below.refl _ _).alloc (Nat.le_refl _) _).alloc (by simp) _
    have hsz : W.heap.size = w.heap.size + 2 := by rw [hW]; simp
    have x0 : W.cell? ⟨w.heap.size, 0, none⟩ = some (.slice a n c) := by rw [hW]; go_simp
    have t0 : W.cell? ⟨w.heap.size + 1, 0, none⟩ = some (.int .i64 S) := by rw [hW]; go_simp
    have t1 : W.cell? ⟨w.heap.size + 1, 1, none⟩ = some (.int .i64 T) := by rw [hW]; go_simp
    have t2 : W.cell? ⟨w.heap.size + 1, 2, none⟩ = some (.int .i64 N) := by rw [hW]; go_simp
    have t3 : W.cell? ⟨w.heap.size + 1, 3, none⟩ = some (.int .i64 Q) := by rw [hW]; go_simp
    rw [← hW]
    clear hW
    go_loopw [6] (fun vi wr => ∃ i : Nat, i ≤ n ∧ vi = .int .i64 i ∧ Hid (∀ j, j < i → psAt f S T N Q j = true) ∧ Hid (Below W.heap.size W wr)) (fun vi _ => n - (intOf vi).toNat)
    case atStart => exact ⟨0, by omega, rfl, fun j hj => by omega, Below.refl _ _⟩
    case round =>
      obtain ⟨i, hi, rfl, HI, HB⟩ := hrel
      have HBW : Hid (Below w.heap.size w wr) := hBW.out.trans (HB.out.mono (by omega))
      have hx : ∀ b o, b < W.heap.size → wr.cell? ⟨b, o, none⟩ = W.cell? ⟨b, o, none⟩ := fun b o h => HB.out.cell (p := ⟨b, o, none⟩) h
      have y0 := (hx w.heap.size 0 (by omega)).trans x0
      have y1 := (hx (w.heap.size + 1) 0 (by omega)).trans t0
      have y2 := (hx (w.heap.size + 1) 1 (by omega)).trans t1
      have y3 := (hx (w.heap.size + 1) 2 (by omega)).trans t2
      have y4 := (hx (w.heap.size + 1) 3 (by omega)).trans t3
      clear hx
      by_cases hlt : i < n
      · obtain ⟨b, o, rfl, hI⟩ := HS.out (by omega)
        have hI2 := hI.keep HBW.out (hI.lt (by omega))
        have d0 := hI2 (i * 7) (by omega)
        have d1 := hI2.at (i * 7) 1 (by omega)
        have d2 := hI2.at (i * 7) 2 (by omega)
        have d3 := hI2.at (i * 7) 3 (by omega)
        have d4 := hI2.at (i * 7) 4 (by omega)
        have d5 := hI2.at (i * 7) 5 (by omega)
        have d6 := hI2.at (i * 7) 6 (by omega)
        have hv := itErr_ok (HV.out i hlt)
        have HC : Hid (Calls Tryd.prog 79 #[.agg #[.int .i64 (f (i * 7)), .int .i64 (f (i * 7 + 1)), .int .i64 (f (i * 7 + 2)), .int .i64 (f (i * 7 + 3)), .int .i64 (f (i * 7 + 4)), .int .i64 (f (i * 7 + 5)), .int .i64 (f (i * 7 + 6))], .agg #[.int .i64 S, .int .i64 T, .int .i64 N, .int .i64 Q]] wr.drew fun e w' => e = .returned (.bool (psAt f S T N Q i)) ∧ Below wr.drew.heap.size wr.drew w') :=
          rpasses_of wr.drew _ _ _ _ _ _ _ S T N Q hv.2.1 hv.2.2.1 hv.2.2.2.1 ⟨hv.2.2.2.2.2.2.1, hv.2.2.2.2.2.2.2.1⟩ HR.out.1 HR.out.2.1 HR.out.2.2.1 HR.out.2.2.2
        clear hI hI2 hv
        go_wp2_with fail
        go_still_tail 6, (by kernel_rfl)
        change wpList _ _ _ _ _ wr.drew
        generalize hd : wr.drew = w2 at HC
        have hs2 : w2.heap.size = wr.heap.size := by rw [← hd]; rfl
        have HB2 : Hid (Below W.heap.size W w2) := by rw [← hd]; exact HB.out.drew
        clear hd y0 y1 y2 y3 y4 d0 d1 d2 d3 d4 d5 d6
        by_cases hp : psAt f S T N Q i = true
        · rw [hp] at HC
          have HI2 : Hid (∀ j, j < i + 1 → psAt f S T N Q j = true) := fun j hj => by
            by_cases ej : j = i
            · subst ej; exact hp
            · exact HI.out j (by omega)
          clear hp
          go_wp2_with fail
          refine HC.out.mono ?_
          rintro e w3 ⟨rfl, hb3⟩
          have HB3 : Hid (Below W.heap.size W w3) := HB2.out.trans (hb3.mono HB2.out.size)
          clear hb3
          go_wp2
          exact ⟨⟨i + 1, by omega, by go_num, HI2, HB3⟩, by simp [intOf]; omega⟩
        · have hp2 : psAt f S T N Q i = false := by simpa using hp
          rw [hp2] at HC
          have hE : E = (i : Int) := by rw [HE.out]; exact firstNot_at hlt HI.out hp2
          have HE2 := Lib.hid hE
          clear hp hp2 hE
          go_wp2_with fail
          refine HC.out.mono ?_
          rintro e w3 ⟨rfl, hb3⟩
          have HB3 : Hid (Below W.heap.size W w3) := HB2.out.trans (hb3.mono HB2.out.size)
          clear hb3
          go_wp2
          go_ret2
          refine ⟨hBW.out.trans (HB3.out.mono (by omega)), .inr (.inr ⟨rfl, rfl, ?_⟩)⟩
          rw [HE2.out]; rfl
      · obtain rfl : i = n := by omega
        have hE : E = -1 := by rw [HE.out]; exact firstNot_none HI.out
        have HE2 := Lib.hid hE
        clear hE
        go_wp2
        go_ret2
        refine ⟨HBW.out, .inr (.inr ⟨rfl, rfl, ?_⟩)⟩
        rw [HE2.out]; rfl
  all_goals
    go_enter Tryd.func35, Tryd.ntmps35
    go_wp2_with (go_at_call 66; refine (rbetw _ _ _ _ _ (by first | exact H1.out | exact H2.out | exact H3.out | exact H4.out)).mono ?_; rintro e' w' ⟨rfl, rfl⟩)
    go_ret2
    exact ⟨((Below.refl _ _).alloc (Nat.le_refl _) _).alloc (by simp) _, .inr (.inl ⟨rfl, rfl, rfl⟩)⟩
end Go.Proofs.YtbpifllkimkokaaDoor
