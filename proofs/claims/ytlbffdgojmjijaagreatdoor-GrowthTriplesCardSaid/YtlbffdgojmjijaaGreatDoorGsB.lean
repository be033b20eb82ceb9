/-
  WALKS: growth: checkPairs.
-/
import Derived.Test.YtlbffdgojmjijaaGreatDoorGsA
import Derived.Test.YtlbffdgojmjijaaGreatDoorPmAF
namespace Go.Proofs.YtlbffdgojmjijaaGreatDoor
open Go.RowKit Go.Shelf

attribute [local go_sem] Oper.semAt_some

theorem wk_pre {e : Nat → Int} {x : Nat} : ∀ {n : Nat}, x < wkN e n → (∀ i, i < x → e i = 0) ∧ x < n
  | 0, h => by simp [wkN] at h
  | n + 1, h => by
    unfold wkN at h
    by_cases e0 : first e n = 0
    · rw [if_pos e0] at h
      exact ⟨fun i hi => first_all e0 i (by omega), h⟩
    · rw [if_neg e0] at h
      have := wk_pre h
      exact ⟨this.1, by omega⟩
theorem wk_first {e : Nat → Int} : ∀ {n : Nat}, (∀ i, i < wkN e n → e i = 0) → first e n = 0
  | 0, _ => rfl
  | n + 1, h => by
    unfold wkN at h
    simp only [first]
    by_cases e0 : first e n = 0
    · rw [if_pos e0]; rw [if_pos e0] at h; exact h n (by omega)
    · rw [if_neg e0] at h; exact absurd (wk_first h) e0
theorem range_at {n : Nat} {pre post : List Nat} {x : Nat} (h : List.range n = pre ++ x :: post) : pre.length = x ∧ x < n := by
  have h1 : (List.range n)[pre.length]? = some x := by rw [h]; simp
  have h2 := List.getElem?_eq_some_iff.1 h1
  obtain ⟨h3, h4⟩ := h2
  rw [List.getElem_range] at h4
  rw [List.length_range] at h3
  omega
set_option maxRecDepth 100000 in
set_option maxHeartbeats 8000000 in
theorem gcheckPairs_in (m : Nat) (hm : 4 ≤ m) (w : World) (a : Option Addr) (n c : Nat) (f : Nat → Int) (p q : Int) (hp : 0 ≤ p ∧ p ≤ 24) (hq : 0 ≤ q ∧ q ≤ 24) (hn : n ≤ maxLen) (hS : Sl w 2 a n f) :
    CallsIn Fence.wide m Tryz.prog 48 #[.slice a n c, .int .i64 p, .int .i64 q] w fun e W => e = .returned (.int .i64 (first (pErr p q f) n)) ∧ Below w.heap.size w W := by
  have hro : Fence.wide.round = none := rfl
  have h1 : 1 ≤ m := by omega
  have HS := Lib.hid hS
  have hSl := hS
  clear hS
  refine callsIn_of_wp_marks Tryz.func48 rfl trivial ?_ hro
  simp only [Tryz.ntmps48, List.size_toArray, List.length_cons, List.length_nil, Nat.reduceAdd, Nat.reduceSub, Array.replicate_succ, Array.replicate_zero, List.push_toArray, List.append_toArray, List.nil_append, List.cons_append]
  gi_wp2_with fail
  refine ⟨trivial, (callsIn_wide.2 (gwalkIt_of _ a n c p q)).mono ?_⟩
  rintro e V2 ⟨rfl, rfl⟩
  have e1 : (w.alloc (.cells #[.int .i64 0] 30)).heap.size = w.heap.size + 1 := by simp
  rw [e1]
  obtain ⟨W0, hW0⟩ : ∃ W0, (((w.alloc (.cells #[.int .i64 0] 30)).alloc (.cells #[.slice a n c] 38)).alloc (.cells #[.int .i64 p] 3)).alloc (.cells #[.int .i64 q] 3) = W0 := ⟨_, rfl⟩
  have hsz : W0.heap.size = w.heap.size + 4 := by rw [← hW0]; simp
  have b0 : W0.heap[w.heap.size]? = some (.cells #[.int .i64 0] 30 (0, 0)) := by rw [← hW0]; exact al_old (al_old (al_old (World.alloc_heap_new w _) _) _) _
  have b1 : W0.heap[w.heap.size + 1]? = some (.cells #[.slice a n c] 38 (0, 0)) := by rw [← hW0]; exact al_old (al_old (al_1 w _ _) _) _
  have b2 : W0.heap[w.heap.size + 1 + 1]? = some (.cells #[.int .i64 p] 3 (0, 0)) := by rw [← hW0]; exact al_old (al_2 w _ _ _) _
  have b3 : W0.heap[w.heap.size + 1 + 1 + 1]? = some (.cells #[.int .i64 q] 3 (0, 0)) := by rw [← hW0]; have h := al_2 (w.alloc (.cells #[.int .i64 0] 30)) (.cells #[.slice a n c] 38) (.cells #[.int .i64 p] 3) (.cells #[.int .i64 q] 3); rwa [World.size_alloc] at h
  have hbW : Below w.heap.size w W0 := by rw [← hW0]; exact ((((Below.refl _ _).alloc (Nat.le_refl _) _).alloc (by simp) _).alloc (by simp; omega) _).alloc (by simp; omega) _
  rw [hW0]
  clear hW0 e1
  have HB0 := Lib.hid b0
  have HbW := Lib.hid hbW
  have HSZ := Lib.hid hsz
  have HGv : Hid (GivesS Fence.wide (m - 1) Tryz.prog 66 #[.pointer (some ⟨w.heap.size + 1, 0, none⟩), .pointer (some ⟨w.heap.size + 1 + 1, 0, none⟩), .pointer (some ⟨w.heap.size + 1 + 1 + 1, 0, none⟩)] (fun k : Nat => #[.agg #[.int .i64 (f (k * 2)), .int .i64 (f (k * 2 + 1))], .int .i64 (pErr p q f k)]) w.heap.size (List.range (wkN (pErr p q f) n)) W0) :=
    gwalk_gives (m - 1) (by omega) w.heap.size _ _ _ a n c f p q hp hq hn W0 (cell_h b1 rfl) (cell_h b2 rfl) (cell_h b3 rfl) (HS.out.keep (by decide) hbW) (by omega) (by omega) (by omega) (fun h0 b o e => by
      obtain ⟨b2, o2, e2, hI⟩ := HS.out h0
      rw [e] at e2; cases e2
      have := hI.lt (by omega)
      omega) (by rw [hsz]; omega)
  clear b0 b1 b2 b3 hbW hsz
  gi_wp2_with fail
  refine wp_givesS hro h1 (gf := 66) (lb := #[.pointer (some ⟨w.heap.size + 1, 0, none⟩), .pointer (some ⟨w.heap.size + 1 + 1, 0, none⟩), .pointer (some ⟨w.heap.size + 1 + 1 + 1, 0, none⟩)]) rfl trivial (enters_of Tryz.func66 (by kernel_rfl) rfl)
    HGv.out (fun _ => rfl) (by rw [HSZ.out]; omega)
    (fun pre W => ((∀ y ∈ pre, pErr p q f y = 0) ∧ W.heap[w.heap.size]? = some (.cells #[.int .i64 0] 30 (0, 0))) ∧ Below w.heap.size w W)
    (fun c pre W => (c = .ret ∧ ∃ x, pre.getLast? = some x ∧ pErr p q f x ≠ 0 ∧ W.heap[w.heap.size]? = some (.cells #[.int .i64 (pErr p q f x)] 30 (0, 0))) ∧ Below w.heap.size w W)
    (fun s A B h hb => ⟨⟨h.1.1, (hb.block _ (by rw [HSZ.out]; omega)).trans h.1.2⟩, h.2.trans (hb.mono (by rw [HSZ.out]; omega))⟩)
    (fun c s A B h hb => ⟨⟨h.1.1, by obtain ⟨x, g1, g2, g3⟩ := h.1.2; exact ⟨x, g1, g2, (hb.block _ (by rw [HSZ.out]; omega)).trans g3⟩⟩, h.2.trans (hb.mono (by rw [HSZ.out]; omega))⟩)
    ⟨⟨fun y hy => by simp at hy, HB0.out⟩, HbW.out⟩
    (fun x W a' W' => a' = { tmps := #[.slice a n c, .int .i64 p, .int .i64 q, undef, undef, undef, .pointer (some ⟨w.heap.size, 0, none⟩), undef, .int .i64 (pErr p q f x), .slice a n c, .int .i64 p, .int .i64 q, .func (.func 66) #[] #[.pointer (some ⟨w.heap.size + 1, 0, none⟩), .pointer (some ⟨w.heap.size + 1 + 1, 0, none⟩), .pointer (some ⟨w.heap.size + 1 + 1 + 1, 0, none⟩)], .agg #[.int .i64 (f (x * 2)), .int .i64 (f (x * 2 + 1))], .int .i64 (pErr p q f x), undef, undef, undef], defers := [] } ∧ W' = W) ?assign ?body ?done ?stop
  case assign =>
    intro l pre x W K hI hw hK
    gi_wp2
    exact hK _ _ (Below.refl _ _) ⟨rfl, rfl⟩
  case body =>
    rintro l pre x post a' A W U hxs ⟨rfl, rfl⟩ hU hUs hl ⟨q', hq'⟩ ⟨⟨hz, hc⟩, hb⟩
    have HC := Lib.hid hc
    have Hbb := Lib.hid hb
    have z0 := cell_h (k := 0) hc rfl
    have zf : U.frozen? ⟨w.heap.size, 0, none⟩ = false := by simp [World.frozen?, hc]
    clear hU hUs hxs hc hb hq'
    generalize hE : pErr p q f x = E
    by_cases h0 : E = 0
    · subst h0
      gi_wp2
      refine ⟨⟨⟨fun y hy => ?_, HC.out⟩, Hbb.out⟩, Still.refl _ _⟩
      rcases hy with h | rfl
      · exact hz y h
      · exact hE
    · gi_wp2
      refine ⟨⟨?_, ?_⟩, ?_⟩
      · rw [heap_set HC.out]; rfl
      · exact Hbb.out.setCell (p := ⟨w.heap.size, 0, none⟩) (Nat.le_refl _) _
      · exact Still.set _ _ _ _
  case done =>
    intro D W hD hw hI hdef
    obtain ⟨⟨hz, hc⟩, hb⟩ := hI
    have hF : first (pErr p q f) n = 0 := wk_first fun i hi => hz i (List.mem_range.2 hi)
    have HC := Lib.hid hc
    have Hbb := Lib.hid hb
    have z0 := cell_h (k := 0) hc rfl
    have zf : W.frozen? ⟨w.heap.size, 0, none⟩ = false := by simp [World.frozen?, hc]
    have HF := Lib.hid hF
    clear hc hb hz hF
    gi_wp2
    have hDR : ¬(D = w.heap.size) := by have := HSZ.out; omega
    have hd2 : (W.setCell ⟨w.heap.size, 0, none⟩ (.int .i64 0)).heap[D]? = some (.deferred (some [])) := (Below.heap_setCell W ⟨w.heap.size, 0, none⟩ (.int .i64 0) D (by exact hDR)).trans hdef
    have hr2 : (W.setCell ⟨w.heap.size, 0, none⟩ (.int .i64 0)).heap[w.heap.size]? = some (.cells #[.int .i64 0] 30 (0, 0)) := by rw [heap_set HC.out]; rfl
    have hbb2 : Below w.heap.size w (W.setCell ⟨w.heap.size, 0, none⟩ (.int .i64 0)) := Hbb.out.setCell (p := ⟨w.heap.size, 0, none⟩) (Nat.le_refl _) _
    generalize W.setCell ⟨w.heap.size, 0, none⟩ (.int .i64 0) = W9 at hd2 hr2 hbb2 ⊢
    refine ⟨by simp, .inl ⟨_, _, rfl, run_takeDeferred hd2, ?_⟩⟩
    have hb3 : Below w.heap.size W9 (W9.putObj D (.deferred none)) := ⟨rfl, rfl, rfl, by simp, fun k hk => World.putObj_heap_other (by have := HSZ.out; omega)⟩
    have hr3 : (W9.putObj D (.deferred none)).cell? ⟨w.heap.size, 0, none⟩ = some (.int .i64 0) := cell_h ((World.putObj_heap_other (fun e => hDR e.symm)).trans hr2) rfl
    exact ⟨.int .i64 0, by simp [results, Tryz.f48, go_sem, hr3], by rw [HF.out], hbb2.trans hb3⟩
  case stop =>
    rintro D c' pre x post W hD hw hxs ⟨⟨rfl, y, hy, hne, hc⟩, hb⟩ hdef
    simp at hy
    subst hy
    obtain ⟨hpx, hxn⟩ := range_at hxs
    obtain ⟨hz, hxn2⟩ := wk_pre hxn
    have hF : first (pErr p q f) n = pErr p q f x := first_at hz hne hxn2
    have HF := Lib.hid hF
    have HC := Lib.hid hc
    have Hbb := Lib.hid hb
    clear hc hb hz hF
    gi_wp2
    have hDR : ¬(D = w.heap.size) := by have := HSZ.out; omega
    have hd2 := hdef
    have hr2 := HC.out
    have hbb2 := Hbb.out
    generalize W = W9 at hd2 hr2 hbb2 ⊢
    refine ⟨by simp, .inl ⟨_, _, rfl, run_takeDeferred hd2, ?_⟩⟩
    have hb3 : Below w.heap.size W9 (W9.putObj D (.deferred none)) := ⟨rfl, rfl, rfl, by simp, fun k hk => World.putObj_heap_other (by have := HSZ.out; omega)⟩
    have hr3 : (W9.putObj D (.deferred none)).cell? ⟨w.heap.size, 0, none⟩ = some (.int .i64 (pErr p q f x)) := cell_h ((World.putObj_heap_other (fun e => hDR e.symm)).trans hr2) rfl
    exact ⟨.int .i64 (pErr p q f x), by simp [results, Tryz.f48, go_sem, hr3], by rw [HF.out], hbb2.trans hb3⟩
/-- checkPairs tells the first error. -/
theorem gcheckPairs_of (w : World) (a : Option Addr) (n c : Nat) (f : Nat → Int) (p q : Int) (hp : 0 ≤ p ∧ p ≤ 24) (hq : 0 ≤ q ∧ q ≤ 24) (hn : n ≤ maxLen) (hS : Sl w 2 a n f) :
    Calls Tryz.prog 48 #[.slice a n c, .int .i64 p, .int .i64 q] w fun e W => e = .returned (.int .i64 (first (pErr p q f) n)) ∧ Below w.heap.size w W :=
  (callsIn_wide (n := 4)).1 (gcheckPairs_in 4 (Nat.le_refl _) w a n c f p q hp hq hn hS)
end Go.Proofs.YtlbffdgojmjijaaGreatDoor
