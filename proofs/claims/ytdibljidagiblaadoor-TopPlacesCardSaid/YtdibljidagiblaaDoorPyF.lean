/-
  WALKS: Chain, where nothing clashes.
-/
import Derived.Test.YtdibljidagiblaaDoorPyE
import Derived.Test.YtdibljidagiblaaDoorOwB
namespace Go.Proofs.YtdibljidagiblaaDoor
open Go.RowKit

/-- What Chain tells of an event: nothing, an empty chain, or one from x to y that allows just mo. -/
def ChEnd (w : World) (E n : Nat) (f : Nat → Int) (v x y : Nat) (kn : Bool) (mo : Int) (e : Ending) (w' : World) : Prop :=
  ∃ vv l ev, e = .returned (.tuple #[vv, .int .i64 ev]) ∧ w'.ownsRow w.heap.size 3 1 vv l.length (lrow l) ∧ Below w.heap.size w w' ∧
    ((kn = false ∧ l = [] ∧ ev = 5) ∨ (kn = true ∧ v = 0 ∧ l = [] ∧ ev = 0 ∧ mo = 0) ∨ (kn = true ∧ v ≠ 0 ∧ l ≠ [] ∧ l.length < E ∧ ev = 0 ∧ isWk f n x y l ∧ wt f l = mo ∧ (l.map (bF f)).Nodup))
/-- The way back from an event. -/
theorem back_up {E n : Nat} {f : Nat → Int} (hf : BOk E n f) (hn : NoNeg E n f) {v : Nat} (hv : v < E) (hk : (ptU f n E).kn v = true) :
    (v ≠ 0 → ∃ es, Ends f n (ptU f n E) v es 0 ∧ es.length < E ∧ wt f es = (ptU f n E).mo v ∧ (es.map (bF f)).Nodup ∧ (es.map (bT f)).Nodup) ∧ (v = 0 → (ptU f n E).mo v = 0) := by
  obtain ⟨es, _, h2, h3, h4, h5, h6, _, h8⟩ := ptU_back hf hn hv hk
  exact ⟨fun h => ⟨es, h5 h, h2, h3, h4, h8⟩, fun h => by rw [h]; exact h6⟩
theorem back_down {E n : Nat} {f : Nat → Int} (hf : BOk E n f) (hn : NoNeg E n f) {v : Nat} (hv : v < E) (hk : (ptD f n E).kn v = true) :
    (v ≠ 0 → ∃ es, Ends (tF f) n (ptD f n E) v es 0 ∧ es.length < E ∧ wt (tF f) es = (ptD f n E).mo v ∧ (es.map (bF (tF f))).Nodup ∧ (es.map (bT (tF f))).Nodup) ∧ (v = 0 → (ptD f n E).mo v = 0) :=
  back_up (tF_ok hf) (noNeg_turned hn) hv hk

set_option maxRecDepth 100000 in
set_option maxHeartbeats 4000000 in
theorem chain_up (w : World) (f : Nat → Int) (E n c v : Nat) (a : Option Addr) (hf : BOk E n f) (hv : v < E) (hS : Sl w 3 a n f) (hc : clash f n E < 0) :
    Calls Tryd.prog 16 #[.int .i64 (E : Int), .slice a n c, .int .i64 (v : Int), .bool true] w (ChEnd w E n f v 0 v ((ptU f n E).kn v) ((ptU f n E).mo v)) := by
  have hn := (clash_iff hf).1 hc
  have hz := paths_zero
  have HBk := Lib.hid (fun hk => back_up hf hn hv hk)
  have HF := Lib.hid hf
  have HS := Lib.hid hS
  have HC := Lib.hid hc
  have hl := hf.1
  clear hf hS hc hn
  go_enter Tryd.func16, Tryd.ntmps16
  go_wp2_with fail
  refine (check_of w E a n c f HS.out).mono ?_
  rintro e w1 ⟨rfl, hB1⟩
  rw [bchk_of HF.out]
  have HB1 := Lib.hid hB1
  clear hB1
  go_wp2_with fail
  refine (idx_of true w1 v E (by symm; rw [decide_eq_true_iff]; omega)).mono ?_
  rintro e w9 ⟨rfl, hw9⟩
  rw [hw9]
  clear hw9 w9
  go_wp2_with fail
  refine (checkClash_none w1 f E n c a HF.out (HS.out.keep (by decide) HB1.out) HC.out).mono ?_
  rintro e w2 ⟨rfl, hB2⟩
  have HB2 := Lib.hid (HB1.out.trans (hB2.mono HB1.out.size))
  clear hB2
  go_wp2_with fail
  refine (fromStart_of w2 f E n c a HF.out (HS.out.keep (by decide) HB2.out)).mono ?_
  rintro e w3 ⟨rfl, hB3⟩
  have ed : (relS f n E Pt.start (-1)).1 = ptU f n E := rfl
  rw [ed]
  clear ed
  have HS3 := Lib.hid ((HS.out.keep (by decide) HB2.out).keep (by decide) hB3)
  have HB3 := Lib.hid (HB2.out.trans (hB3.mono HB2.out.size))
  clear hB3
  obtain ⟨k, hk⟩ : ∃ k, (ptU f n E).kn v = k := ⟨_, rfl⟩
  have HK := Lib.hid hk
  have HKN : Hid (∀ (W : World) (b : Nat), PtAt W b 117 (ptU f n E) → W.cell? ⟨b, v, none⟩ = some (.bool k)) := fun W b h => by rw [h.kn (by omega), hk]
  clear hk
  have hv64 : (v : Int) < 64 := by omega
  have hcs : (k = false) ∨ (k = true ∧ v = 0) ∨ (k = true ∧ v ≠ 0 ∧ ((v : Int) == 0) = false) := by
    cases k
    · exact .inl rfl
    · by_cases e : v = 0
      · exact .inr (.inl ⟨rfl, e⟩)
      · exact .inr (.inr ⟨rfl, e, by simp; omega⟩)
  have HWs := Lib.hid (HB3.out.size)
  rcases hcs with rfl | ⟨rfl, rfl⟩ | ⟨rfl, hv0, hv1⟩
  all_goals
    go_wp2_with ((with_reducible refine wpList_store_paths (b := w3.heap.size) (p := Pt.none) (q := ptU f n E) rfl (.tmp 12) (.tmp 36) rfl ?_ ?_ (PtAt.new w3 _ Pt.none) ?_); rfl; rfl; have P4 : PtAt ((w3.alloc (.cells Pt.none.cells 117)).setRow w3.heap.size (ptU f n E).cells) w3.heap.size 117 (ptU f n E) := (PtAt.new w3 _ Pt.none).row _; have B4 : Below w3.heap.size w3 ((w3.alloc (.cells Pt.none.cells 117)).setRow w3.heap.size (ptU f n E).cells) := ((Below.refl _ w3).alloc (Nat.le_refl _) _).trans (below_setRow _ _ (Nat.le_refl _)); obtain ⟨w4, hw4⟩ : ∃ w4, (w3.alloc (.cells Pt.none.cells 117)).setRow w3.heap.size (ptU f n E).cells = w4 := ⟨_, rfl⟩; rw [hw4] at P4 B4 ⊢; clear hw4; have k4 := HKN.out _ _ P4; have HP4 := Lib.hid P4; have HB4 := Lib.hid (HB3.out.trans (B4.mono HB3.out.size)); have HS4 := Lib.hid (HS3.out.keep (by decide) B4); clear P4 B4)
  · exact bodyPost_ret (v := .tuple #[.slice none 0 0, .int .i64 5]) (by simp [results, Tryd.f16, go_sem]) rfl ⟨_, [], _, rfl, ⟨rfl, .inl ⟨rfl, rfl⟩⟩, HB4.out, .inl ⟨HK.out, rfl, rfl⟩⟩
  · exact bodyPost_ret (v := .tuple #[.slice none 0 0, .int .i64 0]) (by simp [results, Tryd.f16, go_sem]) rfl ⟨_, [], _, rfl, ⟨rfl, .inl ⟨rfl, rfl⟩⟩, HB4.out, .inr (.inl ⟨HK.out, rfl, rfl, rfl, (HBk.out HK.out).2 trivial⟩)⟩
  · obtain ⟨es, hEn, hes, hew, hed, hed2⟩ := (HBk.out HK.out).1 hv0
    have HEs := Lib.hid (And.intro hes (And.intro hew (And.intro hed hed2)))
    refine (back_of w4 w3.heap.size (ptU f n E) f E n _ _ v 0 es HF.out hv (by omega) hEn HP4.out HS4.out).mono ?_
    rintro e w5 ⟨vv, rfl, hO5, hB5⟩
    have hne : es ≠ [] := hEn.2.1
    have hwk := hEn.1.wk
    obtain ⟨xa, cap, rfl⟩ := own_form hO5
    have HW := Lib.hid hwk
    have HB5 := Lib.hid (HB4.out.trans (hB5.mono HB4.out.size))
    have HO5 := Lib.hid (own_base hO5 HB4.out.size)
    have hlen : 0 < es.length := List.length_pos_iff.2 hne
    clear hO5 hB5 hwk hEn hes hew hed hed2
    have hsp : ∃ g, xa = some ⟨g, 0, none⟩ := by
      obtain ⟨m', hm'⟩ : ∃ m', es.length = m' + 1 := ⟨es.length - 1, by omega⟩
      have h := HO5.out
      rw [hm'] at h
      obtain ⟨g, cp, e⟩ := ownsRow_succ h
      cases e
      exact ⟨g, rfl⟩
    obtain ⟨g, rfl⟩ := hsp
    go_wp2_with fail
    have h64 : es.length < E := HEs.out.1
    refine (revI_own w5 w.heap.size g es.length cap es HO5.out (by omega)).mono ?_
    rintro e w6 ⟨⟨x6, rfl⟩, hO6, hB6⟩
    have HO6 := Lib.hid hO6
    have HB6 := Lib.hid (HB5.out.trans hB6)
    clear hO6 hB6
    go_wp2_with fail
    refine bodyPost_ret (v := .tuple #[.slice (some ⟨g, 0, none⟩) es.length cap, .int .i64 0]) (by simp [results, Tryd.f16, go_sem]) rfl ⟨_, es.reverse, _, rfl, by rw [List.length_reverse]; exact HO6.out, HB6.out, .inr (.inr ⟨HK.out, hv0, by simpa using hne, by rw [List.length_reverse]; exact h64, rfl, HW.out, by rw [wt_reverse]; exact HEs.out.2.1, ?_⟩)⟩
    rw [List.map_reverse]
    exact List.pairwise_reverse.2 (HEs.out.2.2.1.imp fun h => Ne.symm h)

set_option maxRecDepth 100000 in
set_option maxHeartbeats 4000000 in
theorem chain_down (w : World) (f : Nat → Int) (E n c v : Nat) (a : Option Addr) (hf : BOk E n f) (hv : v < E) (hS : Sl w 3 a n f) (hc : clash f n E < 0) :
    Calls Tryd.prog 16 #[.int .i64 (E : Int), .slice a n c, .int .i64 (v : Int), .bool false] w (ChEnd w E n f v v 0 ((ptD f n E).kn v) ((ptD f n E).mo v)) := by
  have hn := (clash_iff hf).1 hc
  have hz := paths_zero
  have HBk := Lib.hid (fun hk => back_down hf hn hv hk)
  have HF := Lib.hid hf
  have HS := Lib.hid hS
  have HC := Lib.hid hc
  have hl := hf.1
  clear hf hS hc hn
  go_enter Tryd.func16, Tryd.ntmps16
  go_wp2_with fail
  refine (check_of w E a n c f HS.out).mono ?_
  rintro e w1 ⟨rfl, hB1⟩
  rw [bchk_of HF.out]
  have HB1 := Lib.hid hB1
  clear hB1
  go_wp2_with fail
  refine (idx_of true w1 v E (by symm; rw [decide_eq_true_iff]; omega)).mono ?_
  rintro e w9 ⟨rfl, hw9⟩
  rw [hw9]
  clear hw9 w9
  go_wp2_with fail
  refine (checkClash_none w1 f E n c a HF.out (HS.out.keep (by decide) HB1.out) HC.out).mono ?_
  rintro e w2 ⟨rfl, hB2⟩
  have HB2 := Lib.hid (HB1.out.trans (hB2.mono HB1.out.size))
  clear hB2
  go_wp2_with fail
  refine (turned_of w2 f n c a (by omega) (HS.out.keep (by decide) HB2.out)).mono ?_
  rintro e w2b ⟨rfl, hI, hB2b⟩
  have HB2 := Lib.hid (HB2.out.trans (hB2b.mono HB2.out.size))
  have HI := Lib.hid hI
  clear hI hB2b
  go_wp2_with fail
  refine (fromStart_of w2b (tF f) E n n (some ⟨w2.heap.size, 0, none⟩) (tF_ok HF.out) (fun _ => ⟨_, _, rfl, HI.out⟩)).mono ?_
  rintro e w3 ⟨rfl, hB3⟩
  have ed : (relS (tF f) n E Pt.start (-1)).1 = ptD f n E := rfl
  rw [ed]
  clear ed
  have HS3 := Lib.hid ((show Sl w2b 3 (some ⟨w2.heap.size, 0, none⟩) n (tF f) from fun _ => ⟨_, _, rfl, HI.out⟩).keep (by decide) hB3)
  have HB3 := Lib.hid (HB2.out.trans (hB3.mono HB2.out.size))
  clear hB3
  obtain ⟨k, hk⟩ : ∃ k, (ptD f n E).kn v = k := ⟨_, rfl⟩
  have HK := Lib.hid hk
  have HKN : Hid (∀ (W : World) (b : Nat), PtAt W b 117 (ptD f n E) → W.cell? ⟨b, v, none⟩ = some (.bool k)) := fun W b h => by rw [h.kn (by omega), hk]
  clear hk
  have hv64 : (v : Int) < 64 := by omega
  have hcs : (k = false) ∨ (k = true ∧ v = 0) ∨ (k = true ∧ v ≠ 0 ∧ ((v : Int) == 0) = false) := by
    cases k
    · exact .inl rfl
    · by_cases e : v = 0
      · exact .inr (.inl ⟨rfl, e⟩)
      · exact .inr (.inr ⟨rfl, e, by simp; omega⟩)
  have HWs := Lib.hid (HB3.out.size)
  rcases hcs with rfl | ⟨rfl, rfl⟩ | ⟨rfl, hv0, hv1⟩
  all_goals
    go_wp2_with ((with_reducible refine wpList_store_paths (b := w3.heap.size) (p := Pt.none) (q := ptD f n E) rfl (.tmp 12) (.tmp 36) rfl ?_ ?_ (PtAt.new w3 _ Pt.none) ?_); rfl; rfl; have P4 : PtAt ((w3.alloc (.cells Pt.none.cells 117)).setRow w3.heap.size (ptD f n E).cells) w3.heap.size 117 (ptD f n E) := (PtAt.new w3 _ Pt.none).row _; have B4 : Below w3.heap.size w3 ((w3.alloc (.cells Pt.none.cells 117)).setRow w3.heap.size (ptD f n E).cells) := ((Below.refl _ w3).alloc (Nat.le_refl _) _).trans (below_setRow _ _ (Nat.le_refl _)); obtain ⟨w4, hw4⟩ : ∃ w4, (w3.alloc (.cells Pt.none.cells 117)).setRow w3.heap.size (ptD f n E).cells = w4 := ⟨_, rfl⟩; rw [hw4] at P4 B4 ⊢; clear hw4; have k4 := HKN.out _ _ P4; have HP4 := Lib.hid P4; have HB4 := Lib.hid (HB3.out.trans (B4.mono HB3.out.size)); have HS4 := Lib.hid (HS3.out.keep (by decide) B4); clear P4 B4)
  · exact bodyPost_ret (v := .tuple #[.slice none 0 0, .int .i64 5]) (by simp [results, Tryd.f16, go_sem]) rfl ⟨_, [], _, rfl, ⟨rfl, .inl ⟨rfl, rfl⟩⟩, HB4.out, .inl ⟨HK.out, rfl, rfl⟩⟩
  · exact bodyPost_ret (v := .tuple #[.slice none 0 0, .int .i64 0]) (by simp [results, Tryd.f16, go_sem]) rfl ⟨_, [], _, rfl, ⟨rfl, .inl ⟨rfl, rfl⟩⟩, HB4.out, .inr (.inl ⟨HK.out, rfl, rfl, rfl, (HBk.out HK.out).2 trivial⟩)⟩
  · obtain ⟨es, hEn, hes, hew, hed, hed2⟩ := (HBk.out HK.out).1 hv0
    have HEs := Lib.hid (And.intro hes (And.intro hew (And.intro hed hed2)))
    refine (back_of w4 w3.heap.size (ptD f n E) (tF f) E n _ _ v 0 es (tF_ok HF.out) hv (by omega) hEn HP4.out HS4.out).mono ?_
    rintro e w5 ⟨vv, rfl, hO5, hB5⟩
    have hne : es ≠ [] := hEn.2.1
    have hwk := hEn.1.wk
    obtain ⟨xa, cap, rfl⟩ := own_form hO5
    have HW := Lib.hid hwk
    have HB5 := Lib.hid (HB4.out.trans (hB5.mono HB4.out.size))
    have HO5 := Lib.hid (own_base hO5 HB4.out.size)
    have hlen : 0 < es.length := List.length_pos_iff.2 hne
    clear hO5 hB5 hwk hEn hes hew hed hed2
    go_wp2_with fail
    have h64 : es.length < E := HEs.out.1
    have hw2 := isWk_turned _ HW.out
    rw [List.reverse_reverse] at hw2
    refine bodyPost_ret (v := .tuple #[.slice xa es.length cap, .int .i64 0]) (by simp [results, Tryd.f16, go_sem]) rfl ⟨_, es, _, rfl, HO5.out, HB5.out, .inr (.inr ⟨HK.out, hv0, hne, h64, rfl, hw2, by rw [← wt_turned]; exact HEs.out.2.1, ?_⟩)⟩
    have h4 := HEs.out.2.2.2
    rwa [show es.map (bT (tF f)) = es.map (bF f) from List.map_congr_left fun i _ => t_bT f i] at h4
end Go.Proofs.YtdibljidagiblaaDoor
