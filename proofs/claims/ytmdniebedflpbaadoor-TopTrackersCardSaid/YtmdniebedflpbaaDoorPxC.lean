/-
  WORDS: bounds that are true of places; bounds turned; more bounds.
-/
import Derived.Test.YtmdniebedflpbaaDoorPxB
namespace Go.Proofs.YtmdniebedflpbaaDoor

theorem t_bF (f : Nat → Int) (i : Nat) : bF (tF f) i = bT f i := by unfold bF bT; rw [tF_0]
theorem t_bT (f : Nat → Int) (i : Nat) : bT (tF f) i = bF f i := by unfold bF bT; rw [tF_1]
theorem t_bM (f : Nat → Int) (i : Nat) : bM (tF f) i = bM f i := tF_2 f i
theorem wt_turned (f : Nat → Int) : ∀ es, wt (tF f) es = wt f es
  | [] => rfl
  | i :: es => by simp only [wt, t_bM, wt_turned f es]
theorem wt_reverse (f : Nat → Int) : ∀ es, wt f es.reverse = wt f es
  | [] => rfl
  | i :: es => by rw [List.reverse_cons, wt_append, wt_reverse f es]; simp only [wt]; omega
theorem isWk_turned {f : Nat → Int} {n : Nat} : ∀ (es : List Nat) {u v : Nat}, isWk (tF f) n u v es → isWk f n v u es.reverse
  | [], u, v, h => by have h : u = v := h; subst h; rfl
  | i :: es, u, v, h => by
    obtain ⟨h1, h2, h3⟩ := h
    rw [t_bF] at h2
    rw [t_bT] at h3
    subst h2
    rw [List.reverse_cons]
    exact isWk_snoc (isWk_turned es h3) h1 rfl
theorem isWk_unturned {f : Nat → Int} {n : Nat} : ∀ (es : List Nat) {u v : Nat}, isWk f n u v es → isWk (tF f) n v u es.reverse
  | [], u, v, h => by have h : u = v := h; subst h; rfl
  | i :: es, u, v, h => by
    obtain ⟨h1, h2, h3⟩ := h
    subst h2
    rw [List.reverse_cons]
    have := isWk_snoc (f := tF f) (isWk_unturned es h3) h1 (t_bF f i)
    rwa [t_bT] at this
theorem noNeg_turned {E n : Nat} {f : Nat → Int} (h : NoNeg E n f) : NoNeg E n (tF f) := fun u es hu hw => by
  have := h u es.reverse hu (isWk_turned es hw)
  rwa [wt_reverse, ← wt_turned] at this
/-- What fromStart of the turned bounds finds: what the chains to the event 0 allow. -/
theorem ptD_min {E n : Nat} {f : Nat → Int} (hf : BOk E n f) (hn : NoNeg E n f) (v : Nat) : ((ptD f n E).kn v = true → IsMin f n v 0 ((ptD f n E).mo v)) ∧ ((∃ es, isWk f n v 0 es) → (ptD f n E).kn v = true) := by
  obtain ⟨h1, h2⟩ := ptU_min (tF_ok hf) (noNeg_turned hn) v
  refine ⟨fun hk => ?_, fun ⟨es, hw⟩ => h2 ⟨_, isWk_unturned es hw⟩⟩
  obtain ⟨⟨es, h3, h4⟩, h5⟩ := h1 hk
  refine ⟨⟨es.reverse, isWk_turned es h3, ?_⟩, fun es' hw => ?_⟩
  · show (ptU (tF f) n E).mo v = _
    rw [wt_reverse, ← wt_turned]; exact h4
  · have := h5 _ (isWk_unturned es' hw)
    rw [wt_turned, wt_reverse] at this
    exact this

/-- Places that keep the bounds. -/
def Keeps (f : Nat → Int) (n : Nat) (pl : Nat → Int) : Prop := ∀ i, i < n → pl (bT f i) - pl (bF f i) ≤ bM f i
theorem Keeps.walk {f : Nat → Int} {n : Nat} {pl : Nat → Int} (h : Keeps f n pl) : ∀ (es : List Nat) {u v : Nat}, isWk f n u v es → pl v - pl u ≤ wt f es
  | [], u, v, hw => by have hw : u = v := hw; subst hw; simp only [wt]; omega
  | i :: es, u, v, hw => by
    obtain ⟨h1, h2, h3⟩ := hw
    subst h2
    have a := h i h1
    have b := h.walk es h3
    simp only [wt]
    omega
theorem Keeps.noNeg {f : Nat → Int} {n E : Nat} {pl : Nat → Int} (h : Keeps f n pl) : NoNeg E n f := fun u es _ hw => by
  have := h.walk es hw
  omega
theorem Keeps.min {f : Nat → Int} {n u v : Nat} {pl : Nat → Int} {m : Int} (h : Keeps f n pl) (hm : IsMin f n u v m) : pl v - pl u ≤ m := by
  obtain ⟨⟨es, h1, rfl⟩, _⟩ := hm
  exact h.walk es h1
/-- More bounds. -/
theorem isWk_more {f f' : Nat → Int} {n n' : Nat} (hn : n ≤ n') (he : ∀ i, i < n * 3 → f' i = f i) : ∀ (es : List Nat) {u v : Nat}, isWk f n u v es → isWk f' n' u v es ∧ wt f' es = wt f es
  | [], _, _, h => ⟨h, rfl⟩
  | i :: es, u, v, h => by
    obtain ⟨h1, h2, h3⟩ := h
    have e0 := he (i * 3) (by omega)
    have e1 := he (i * 3 + 1) (by omega)
    have e2 := he (i * 3 + 2) (by omega)
    have a : bF f' i = bF f i := by unfold bF; rw [e0]
    have b : bT f' i = bT f i := by unfold bT; rw [e1]
    have c : bM f' i = bM f i := e2
    obtain ⟨h4, h5⟩ := isWk_more hn he es h3
    refine ⟨⟨by omega, by rw [a]; exact h2, by rw [b]; exact h4⟩, ?_⟩
    simp only [wt, c, h5]
theorem IsMin.more {f f' : Nat → Int} {n n' u v : Nat} (hn : n ≤ n') (he : ∀ i, i < n * 3 → f' i = f i) {m m' : Int} (h : IsMin f n u v m) (h' : IsMin f' n' u v m') : m' ≤ m := by
  obtain ⟨⟨es, h1, rfl⟩, _⟩ := h
  obtain ⟨h2, h3⟩ := isWk_more hn he es h1
  have := h'.2 es h2
  omega
/-- The limit of the end of a bound, from that of its beginning. -/
theorem IsMin.bound {f : Nat → Int} {n u i : Nat} (hi : i < n) {m m' : Int} (h : IsMin f n u (bF f i) m) (h' : IsMin f n u (bT f i) m') : m' ≤ m + bM f i := by
  obtain ⟨⟨es, h1, rfl⟩, _⟩ := h
  have := h'.2 _ (isWk_snoc h1 hi rfl)
  rw [wt_append] at this
  simpa [wt] using this
theorem IsMin.bound' {f : Nat → Int} {n u i : Nat} (hi : i < n) {m m' : Int} (h : IsMin f n (bT f i) u m) (h' : IsMin f n (bF f i) u m') : m' ≤ bM f i + m := by
  obtain ⟨⟨es, h1, rfl⟩, _⟩ := h
  exact h'.2 (i :: es) ⟨hi, rfl, h1⟩
end Go.Proofs.YtmdniebedflpbaaDoor
