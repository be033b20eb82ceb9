/-
  WALKS: the library's Clone of items.
-/
import Derived.Test.YtbpifllkimkokaaDoorLtB
namespace Go.Proofs.YtbpifllkimkokaaDoor
open Go.RowKit

theorem x_info7l : (Tryd.prog.info? 72).map (fun i => (i.zero, i.size, i.bytes)) = some (some (.agg #[.int .i64 0, .int .i64 0, .int .i64 0, .int .i64 0, .int .i64 0, .int .i64 0, .int .i64 0]), 7, 56) := by kernel_rfl

set_option maxRecDepth 8000 in
set_option maxHeartbeats 1600000 in
theorem clone_of (w : World) (b o n c : Nat) (f : Nat → Int) (hn : 1 ≤ n ∧ n ≤ 70) (hS : Sl w 7 (some ⟨b, o, none⟩) n f) :
    Calls Tryd.prog 38 #[.slice (some ⟨b, o, none⟩) n c] w fun e w' => ∃ v, e = .returned v ∧ w'.ownsRow w.heap.size 72 7 v n (irow f (n * 7)) ∧ Below w.heap.size w w' := by
  obtain ⟨i7, hi7, hz70, hz71, hz72⟩ := info_parts x_info7l
  have hI : Ints w b o (n * 7) f := by
    obtain ⟨b2, o2, e, hI⟩ := hS (by omega)
    cases e
    exact hI
  have hbl := hI.lt (by omega)
  have hnews : ∀ j u, (irow f (n * 7))[j]? = some u → (w.alloc (.cells #[] 72)).cell? ((⟨b, o, none⟩ : Addr).add j) = some u := by
    intro j u hj
    have hlt : j < n * 7 := by
      have := (List.getElem?_eq_some_iff.1 hj).1
      rwa [irow_length] at this
    rw [irow_at _ hlt] at hj
    have e : (⟨b, o, none⟩ : Addr).add j = ⟨b, o + j, none⟩ := by
      by_cases e : j = 0
      · subst e; simp [Addr.add]
      · simp [Addr.add, e]
    rw [e, ← hj]
    exact (((Below.refl _ _).alloc (Nat.le_refl _) _).cell (p := ⟨b, o + j, none⟩) hbl).trans (hI j hlt)
  have hown : (w.alloc (.cells #[] 72)).ownsRow w.heap.size 72 7 (.slice (some ⟨w.heap.size, 0, none⟩) 0 0) 0 [] :=
    ⟨rfl, .inr ⟨w.heap.size, 0, #[], rfl, Nat.le_refl _, World.alloc_heap_new w _, Nat.le_refl _, by decide, rfl, rfl⟩⟩
  have HN := Lib.hid hnews
  have HO := Lib.hid hown
  have hlen : (irow f (n * 7)).length = n * 7 := irow_length _ _
  have HL := Lib.hid hlen
  have hone : ∀ u ∈ irow f (n * 7), u.oneCell' = true := by
    intro u hu
    simp only [irow, List.mem_map] at hu
    obtain ⟨i, _, rfl⟩ := hu
    rfl
  have H1 := Lib.hid hone
  have hnil : ∀ W, (binOp .eql 22 (.slice (some ⟨b, o, none⟩) n c) (.slice none 0 0)).run Tryd.prog W = .ok (.bool false) W := fun W => Lib.run_eql_slice_nil W 22 72 (some ⟨b, o, none⟩) n c 0 0 Tryd.underlying22
  clear hS hI hnews hown hlen hone
  go_enter Tryd.func38, Tryd.ntmps38
  go_wp2_with (at_builtin; refine wpList_append_own _ rfl (.tmp 5) (.tmp 6) 22 rfl w.heap.size 72 i7 (.agg #[.int .i64 0, .int .i64 0, .int .i64 0, .int .i64 0, .int .i64 0, .int .i64 0, .int .i64 0]) 7 56 Tryd.underlying22 hi7 hz70 hz71 hz72 rfl (by decide) (.slice (some ⟨w.heap.size, 0, none⟩) 0 0) 0 [] rfl HO.out ⟨b, o, none⟩ n c (irow f (n * 7)) rfl HL.out HN.out H1.out (by unfold maxLen; omega) (by omega) (by simp) ?_; intro v' w3 hown' hgrow3 _; (obtain ⟨a', c', rfl⟩ := own_slice hown'); (have HOw := Lib.hid hown'); (have HG := Lib.hid hgrow3); clear hown' hgrow3)
  go_ret
  refine ⟨_, rfl, ?_, ?_⟩
  · have := HOw.out
    rwa [Nat.zero_add, List.nil_append] at this
  · exact ((Below.refl _ _).alloc (Nat.le_refl _) _).grown HG.out (by simp) (fun k hk => by simp [Value.ownBlock] at hk; omega)
end Go.Proofs.YtbpifllkimkokaaDoor
