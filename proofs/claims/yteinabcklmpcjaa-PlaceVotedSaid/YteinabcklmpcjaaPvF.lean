/-
  WALKS: Vote, in the program.
-/
import Derived.Test.YteinabcklmpcjaaPvE
namespace Go.Proofs.Yteinabcklmpcjaa
open Go.RowKit

def resW (lo hi e : Int) : Value := .tuple #[.agg #[.int .i64 lo, .int .i64 hi], .int .i64 e]
/-- What Vote tells. -/
def VoteOut (n : Nat) (f : Nat → Int) (v lo hi e : Int) : Prop :=
  (voE n f v ≠ 0 ∧ lo = 0 ∧ hi = 0 ∧ e = voE n f v) ∨ (voE n f v = 0 ∧ (∀ x, vts f x n < (n : Int) - v) ∧ lo = 0 ∧ hi = 0 ∧ e = 5) ∨ (voE n f v = 0 ∧ VoteIs n f ((n : Int) - v) lo hi ∧ e = 0)
theorem VoteOut.eq {n : Nat} {f : Nat → Int} {v lo hi e lo' hi' e' : Int} (h : VoteOut n f v lo hi e) (h' : VoteOut n f v lo' hi' e') : lo = lo' ∧ hi = hi' ∧ e = e' := by
  rcases h with ⟨a, rfl, rfl, rfl⟩ | ⟨a, b, rfl, rfl, rfl⟩ | ⟨a, b, rfl⟩
  · rcases h' with ⟨a', rfl, rfl, rfl⟩ | ⟨a', _⟩ | ⟨a', _⟩
    · exact ⟨rfl, rfl, rfl⟩
    · exact absurd a' a
    · exact absurd a' a
  · rcases h' with ⟨a', _⟩ | ⟨_, b', rfl, rfl, rfl⟩ | ⟨_, b', _⟩
    · exact absurd a a'
    · exact ⟨rfl, rfl, rfl⟩
    · obtain ⟨i, _, _, h3⟩ := b'.isLo
      have := b lo'; omega
  · rcases h' with ⟨a', _⟩ | ⟨_, b', _⟩ | ⟨_, b', rfl⟩
    · exact absurd a a'
    · obtain ⟨i, _, _, h3⟩ := b.isLo
      have := b' lo; omega
    · obtain ⟨h1, h2⟩ := b.eq b'
      exact ⟨h1, h2, rfl⟩
theorem voE_ok {n : Nat} {f : Nat → Int} {v : Int} (h : voE n f v = 0) : (1 ≤ n ∧ n ≤ 16) ∧ (0 ≤ v ∧ v < n) ∧ ∀ i, i < n → (-1073741824 ≤ f (i * 2) ∧ f (i * 2) ≤ f (i * 2 + 1) ∧ f (i * 2 + 1) ≤ 1073741824) := by
  unfold voE at h
  by_cases h1 : n < 1 ∨ 16 < n
  · rw [if_pos h1] at h; omega
  · rw [if_neg h1] at h
    by_cases h2 : first (vgAt f) n = 0
    · rw [if_neg (by simpa using h2)] at h
      by_cases h3 : 0 ≤ v ∧ v < n
      · refine ⟨by omega, h3, fun i hi => ?_⟩
        have h4 : rgErr (f (i * 2)) (f (i * 2 + 1)) (-1073741824) 1073741824 = 0 := first_all h2 i hi
        rcases rg_ways (f (i * 2)) (f (i * 2 + 1)) (-1073741824) 1073741824 with ⟨_, g⟩ | ⟨_, g⟩ | ⟨g, _⟩
        · omega
        · omega
        · omega
      · rw [if_neg h3] at h; omega
    · rw [if_pos (by simpa using h2)] at h; exact absurd h h2

/-- The places told so far. -/
def loV (T : Nat → Int × Int) (need : Int) (k : Nat) : Int := if fnd T need k = 0 then 0 else (T (fnd T need k - 1)).1
def hiV (T : Nat → Int × Int) (need : Int) (k : Nat) : Int := if lst T need k = 0 then 0 else (T (lst T need k - 1)).1
theorem hSum_bd {T : Nat → Int × Int} {N : Nat} (hu : Unit1 T N) : ∀ k, k ≤ N → -(k : Int) ≤ hSum T k ∧ hSum T k ≤ k
  | 0, _ => by simp [hSum]
  | k + 1, hk => by
    have := hSum_bd hu k (by omega)
    have := hu k (by omega)
    simp only [hSum]
    push_cast
    omega
/-- One turn more. -/
theorem turn_ways {T : Nat → Int × Int} {N : Nat} (hu : Unit1 T N) (need : Int) {k : Nat} (hk : k < N) :
    ((T k).2 = 1 ∧ hSum T k + 1 = need ∧ fnd T need k = 0 ∧ fnd T need (k + 1) = k + 1 ∧ lst T need (k + 1) = lst T need k) ∨
    ((T k).2 = 1 ∧ hSum T k + 1 = need ∧ fnd T need k ≠ 0 ∧ fnd T need (k + 1) = fnd T need k ∧ lst T need (k + 1) = lst T need k) ∨
    ((T k).2 = 1 ∧ hSum T k + 1 ≠ need ∧ fnd T need (k + 1) = fnd T need k ∧ lst T need (k + 1) = lst T need k) ∨
    ((T k).2 = -1 ∧ hSum T k - 1 = need - 1 ∧ fnd T need (k + 1) = fnd T need k ∧ lst T need (k + 1) = k + 1) ∨
    ((T k).2 = -1 ∧ hSum T k - 1 ≠ need - 1 ∧ fnd T need (k + 1) = fnd T need k ∧ lst T need (k + 1) = lst T need k) := by
  have hs : hSum T (k + 1) = hSum T k + (T k).2 := rfl
  have h1 : fnd T need (k + 1) = if fnd T need k = 0 ∧ 0 < (T k).2 ∧ hSum T (k + 1) = need then k + 1 else fnd T need k := rfl
  have h2 : lst T need (k + 1) = if (T k).2 < 0 ∧ hSum T (k + 1) = need - 1 then k + 1 else lst T need k := rfl
  rw [hs] at h1 h2
  rcases hu k hk with h | h
  · rw [h] at h1 h2
    rw [if_neg (by omega)] at h2
    by_cases a : hSum T k + 1 = need
    · by_cases b : fnd T need k = 0
      · rw [if_pos ⟨b, by omega, a⟩] at h1; exact .inl ⟨h, a, b, h1, h2⟩
      · rw [if_neg (fun q => b q.1)] at h1; exact .inr (.inl ⟨h, a, b, h1, h2⟩)
    · rw [if_neg (fun q => a q.2.2)] at h1; exact .inr (.inr (.inl ⟨h, a, h1, h2⟩))
  · rw [h] at h1 h2
    rw [if_neg (by omega)] at h1
    by_cases a : hSum T k - 1 = need - 1
    · rw [if_pos ⟨by omega, by omega⟩] at h2; exact .inr (.inr (.inr (.inl ⟨h, a, h1, h2⟩)))
    · rw [if_neg (by omega)] at h2; exact .inr (.inr (.inr (.inr ⟨h, a, h1, h2⟩)))

theorem cell_same {w w' : World} {b : Nat} (h : w.heap[b]? = w'.heap[b]?) (o : Nat) : w.cell? ⟨b, o, none⟩ = w'.cell? ⟨b, o, none⟩ := by simp only [World.cell?, h]
theorem set_0 {W : World} {b : Nat} {x y v : Value} {t : TypeId} {fz : Nat × Nat} (h : W.heap[b]? = some (.cells #[x, y] t fz)) : (W.setCell ⟨b, 0, none⟩ v).heap[b]? = some (.cells #[v, y] t fz) := by
  simp only [World.setCell, Array.getElem?_modify, if_true, h]
  rfl
theorem set_1 {W : World} {b : Nat} {x y v : Value} {t : TypeId} {fz : Nat × Nat} (h : W.heap[b]? = some (.cells #[x, y] t fz)) : (W.setCell ⟨b, 1, none⟩ v).heap[b]? = some (.cells #[x, v] t fz) := by
  simp only [World.setCell, Array.getElem?_modify, if_true, h]
  rfl

set_option maxRecDepth 100000 in
set_option maxHeartbeats 8000000 in
theorem vote_of (w : World) (a : Option Addr) (n c : Nat) (f : Nat → Int) (v : Int) (hn : n ≤ maxLen) (hS : Sl w 2 a n f) :
    Calls Try.prog 26 #[.slice a n c, .int .i64 v] w fun e w' => ∃ lo hi er, e = .returned (resW lo hi er) ∧ VoteOut n f v lo hi er ∧ Below w.heap.size w w' := by
  have hB : Below w.heap.size w (w.alloc (.cells #[.int .i64 0, .int .i64 0] 25)) := (Below.refl _ w).alloc (Nat.le_refl _) _
  have a0 := World.alloc_heap_new w (.cells #[.int .i64 0, .int .i64 0] 25)
  have S1 := Lib.hid (hS.keep (by decide) hB)
  clear hS
  go_enter Try.func26, Try.ntmps26
  go_wp2_with fail
  generalize w.alloc (.cells #[.int .i64 0, .int .i64 0] 25) = W at a0 hB S1 ⊢
  refine (checkVote_of W a n c f v hn S1.out).mono ?_
  rintro e W2 ⟨rfl, hB2⟩
  replace a0 := (hB2.block _ (Array.getElem?_eq_some_iff.1 a0).1).trans a0
  have S2 := Lib.hid (S1.out.keep (by decide) hB2)
  have HB := Lib.hid (hB.trans (hB2.mono hB.size))
  clear hB hB2 S1
  by_cases h0 : voE n f v = 0
  · have H0 := Lib.hid h0
    have hok := voE_ok h0
    rw [h0]
    clear h0
    have hn16 := hok.1
    have hv := hok.2.1
    have HO := Lib.hid hok
    obtain ⟨need, hneed⟩ : ∃ need, (n : Int) - v = need := ⟨_, rfl⟩
    have hnd : 1 ≤ need ∧ need ≤ n := by omega
    have wn : IntKind.i64.wrap ((n : Int) - v) = need := (IntWalk.i64_in _ (by omega)).trans hneed
    have HN := Lib.hid hneed
    have q0 : W2.cell? ⟨w.heap.size, 0, none⟩ = some (.int .i64 0) := cell_h a0 rfl
    have hl0 := (Array.getElem?_eq_some_iff.1 a0).1
    have A0 := Lib.hid a0
    clear hok hneed a0 q0 hn
    go_wp2_with fail
    have a1 := World.alloc_heap_new W2 (.cells #[.int .i64 0, .int .i64 0] 25)
    have hB3 : Below W2.heap.size W2 (W2.alloc (.cells #[.int .i64 0, .int .i64 0] 25)) := (Below.refl _ _).alloc (Nat.le_refl _) _
    obtain ⟨bo, hbo⟩ : ∃ bo, W2.heap.size = bo := ⟨_, rfl⟩
    generalize W2.alloc (.cells #[.int .i64 0, .int .i64 0] 25) = W3 at a1 hB3 ⊢
    have hbl : W2.heap.size < W3.heap.size := (Array.getElem?_eq_some_iff.1 a1).1
    refine (turns_of W3 a n c f hn16 (S2.out.keep (by decide) hB3)).mono ?_
    rintro e W4 ⟨g, cg, L, rfl, hp, hs, hT, hg, hg2, hB4⟩
    have hW := swp_of (f := f) (n := n) (fun i hi => (HO.out.2.2 i hi).2.1) hp hs
    have hLn : L.length = n * 2 := by rw [hp.length_eq, tb_length]
    replace a1 := (hB4.block _ (Array.getElem?_eq_some_iff.1 a1).1).trans a1
    rw [hbo] at a1 hbl hB3 hl0
    have hgb : bo ≠ g := by omega
    have hbB : Below bo W2 W4 := hB3.trans (hB4.mono (by omega))
    have hl2 : w.heap.size < bo := hl0
    have HWs := Lib.hid hW
    have HT := Lib.hid hT
    have HA1 := Lib.hid a1
    have HbB := Lib.hid hbB
    have HBo := Lib.hid hbo
    rw [hbo]
    generalize T_of L = T at HWs HT
    generalize L.length = N at HWs hLn
    subst hLn
    clear hp hs hT hB4 hB3 hW a1 hbB hbo hbl hl0
    go_wp2_with fail
    go_loopw [8, 9, 27] (fun vh vf vi wr => ∃ (k : Nat) (fb : Bool), k ≤ n * 2 ∧ vi = .int .i64 k ∧ vh = .int .i64 (hSum T k) ∧ vf = .bool fb ∧ Hid ((fb = false ∧ fnd T need k = 0) ∨ (fb = true ∧ fnd T need k ≠ 0)) ∧
      Hid (wr.heap[bo]? = some (.cells #[.int .i64 (loV T need k), .int .i64 (hiV T need k)] 25 (0, 0))) ∧ Hid (wr.heap[g]? = W4.heap[g]?) ∧ Hid (Below bo W2 wr)) (fun _ _ vi _ => n * 2 - (intOf vi).toNat)
    case atStart => exact ⟨0, false, by omega, rfl, rfl, rfl, .inl ⟨rfl, rfl⟩, HA1.out, rfl, HbB.out⟩
    case round =>
      obtain ⟨k, fb, hk, rfl, rfl, rfl, HF, HO1, HG, HK⟩ := hrel
      by_cases hlt : k < n * 2
      · have d0 := (cell_same HG.out (k * 2)).trans (HT.out k hlt).1
        have d1 := (cell_same HG.out (k * 2 + 1)).trans (HT.out k hlt).2
        have hbd := hSum_bd HWs.out.unit k hk
        have hw := turn_ways HWs.out.unit need hlt
        have hS : hSum T (k + 1) = hSum T k + (T k).2 := rfl
        have hL : loV T need (k + 1) = if fnd T need (k + 1) = 0 then 0 else (T (fnd T need (k + 1) - 1)).1 := rfl
        have hH : hiV T need (k + 1) = if lst T need (k + 1) = 0 then 0 else (T (lst T need (k + 1) - 1)).1 := rfl
        have hL0 : loV T need k = if fnd T need k = 0 then 0 else (T (fnd T need k - 1)).1 := rfl
        have hH0 : hiV T need k = if lst T need k = 0 then 0 else (T (lst T need k - 1)).1 := rfl
        have hkk : (k : Int) < ((n * 2 : Nat) : Int) := by omega
        have hsz : bo < wr.heap.size := (Array.getElem?_eq_some_iff.1 HO1.out).1
        have hgw : g < wr.heap.size := by
          have h := HG.out
          rw [Array.getElem?_eq_getElem hg2] at h
          exact (Array.getElem?_eq_some_iff.1 h).1
        have hbw : bo ≤ wr.heap.size := by omega
        have c0 : wr.cell? ⟨bo, 0, none⟩ = some (.int .i64 (loV T need k)) := cell_h HO1.out rfl
        have c1 : wr.cell? ⟨bo, 1, none⟩ = some (.int .i64 (hiV T need k)) := cell_h HO1.out rfl
        have zf : ∀ o, wr.frozen? ⟨bo, o, none⟩ = false := fun o => frozen_own HO1.out o
        generalize loV T need k = LO at hL0 HO1 c0
        generalize hiV T need k = HI at hH0 HO1 c1
        rcases hw with ⟨e0, e1, e2, e3, e4⟩ | ⟨e0, e1, e2, e3, e4⟩ | ⟨e0, e1, e3, e4⟩ | ⟨e0, e1, e3, e4⟩ | ⟨e0, e1, e3, e4⟩
        · rw [e0] at d1 hS
          rw [e3, if_neg (by omega), Nat.add_sub_cancel] at hL
          rw [e4, ← hH0] at hH
          have hfb : fb = false := by
            rcases HF.out with ⟨q, _⟩ | ⟨_, q⟩
            · exact q
            · exact absurd e2 q
          subst hfb
          have HF2 : Hid ((true = false ∧ fnd T need (k + 1) = 0) ∨ (true = true ∧ fnd T need (k + 1) ≠ 0)) := .inr ⟨rfl, by rw [e3]; omega⟩
          have HS := Lib.hid hS
          have HL := Lib.hid hL
          have HH := Lib.hid hH
          obtain ⟨H, hHq⟩ : ∃ H, hSum T k = H := ⟨_, rfl⟩
          rw [hHq] at hbd e1 HS ⊢
          have wv : IntKind.i64.wrap (H + 1) = need := (IntWalk.i64_in _ (by omega)).trans e1
          have HV : Hid (hSum T (k + 1) = need) := by show hSum T (k + 1) = need; rw [HS.out, e1]
          obtain ⟨X, hX⟩ : ∃ X, (T k).1 = X := ⟨_, rfl⟩
          simp only [hX] at d0 HL HH
          clear hL0 hH0 hS hL hH e0 e1 e2 e3 e4 hHq hX HS
          go_wp2_with fail
          refine ⟨⟨k + 1, _, by omega, by go_num, by rw [HV.out], rfl, HF2.out, ?_, ((Below.heap_alloc _ _ g (by simp [World.setCell]; omega)).trans ((Below.heap_setCell wr ⟨bo, 0, none⟩ _ g (Ne.symm hgb)).trans HG.out)), ((HK.out.setCell (p := ⟨bo, 0, none⟩) (Nat.le_refl _) _).alloc (by simp [World.setCell]; omega) _)⟩, by simp [intOf]; omega⟩
          rw [HL.out, HH.out]
          exact (al_old (set_0 HO1.out) _)
        · rw [e0] at d1 hS
          rw [e3, ← hL0] at hL
          rw [e4, ← hH0] at hH
          have hfb : fb = true := by
            rcases HF.out with ⟨_, q⟩ | ⟨q, _⟩
            · exact absurd q e2
            · exact q
          subst hfb
          have HF2 : Hid ((true = false ∧ fnd T need (k + 1) = 0) ∨ (true = true ∧ fnd T need (k + 1) ≠ 0)) := .inr ⟨rfl, by rw [e3]; exact e2⟩
          have HS := Lib.hid hS
          have HL := Lib.hid hL
          have HH := Lib.hid hH
          obtain ⟨H, hHq⟩ : ∃ H, hSum T k = H := ⟨_, rfl⟩
          rw [hHq] at hbd e1 HS ⊢
          have wv : IntKind.i64.wrap (H + 1) = need := (IntWalk.i64_in _ (by omega)).trans e1
          have HV : Hid (hSum T (k + 1) = need) := by show hSum T (k + 1) = need; rw [HS.out, e1]
          obtain ⟨X, hX⟩ : ∃ X, (T k).1 = X := ⟨_, rfl⟩
          simp only [hX] at d0 HL HH
          clear hL0 hH0 hS hL hH e0 e1 e2 e3 e4 hHq hX HS
          go_wp2_with fail
          refine ⟨⟨k + 1, _, by omega, by go_num, by rw [HV.out], rfl, HF2.out, ?_, ((Below.heap_alloc _ _ g hgw).trans HG.out), (HK.out.alloc hbw _)⟩, by simp [intOf]; omega⟩
          rw [HL.out, HH.out]
          exact (al_old HO1.out _)
        · rw [e0] at d1 hS
          rw [e3, ← hL0] at hL
          rw [e4, ← hH0] at hH
          have HF2 : Hid ((fb = false ∧ fnd T need (k + 1) = 0) ∨ (fb = true ∧ fnd T need (k + 1) ≠ 0)) := by rw [e3]; exact HF.out
          have HS := Lib.hid hS
          have HL := Lib.hid hL
          have HH := Lib.hid hH
          obtain ⟨H, hHq⟩ : ∃ H, hSum T k = H := ⟨_, rfl⟩
          rw [hHq] at hbd e1 HS ⊢
          have wv : IntKind.i64.wrap (H + 1) = H + 1 := IntWalk.i64_in _ (by omega)
          have ne1 : (H + 1 == need) = false := by simpa using e1
          have HV : Hid (hSum T (k + 1) = H + 1) := HS.out
          obtain ⟨X, hX⟩ : ∃ X, (T k).1 = X := ⟨_, rfl⟩
          simp only [hX] at d0 HL HH
          clear hL0 hH0 hS hL hH e0 e1  e3 e4 hHq hX HS
          go_wp2_with fail
          refine ⟨⟨k + 1, _, by omega, by go_num, by rw [HV.out], rfl, HF2.out, ?_, ((Below.heap_alloc _ _ g hgw).trans HG.out), (HK.out.alloc hbw _)⟩, by simp [intOf]; omega⟩
          rw [HL.out, HH.out]
          exact (al_old HO1.out _)
        · rw [e0] at d1 hS
          rw [e3, ← hL0] at hL
          rw [e4, if_neg (by omega), Nat.add_sub_cancel] at hH
          have HF2 : Hid ((fb = false ∧ fnd T need (k + 1) = 0) ∨ (fb = true ∧ fnd T need (k + 1) ≠ 0)) := by rw [e3]; exact HF.out
          have HS := Lib.hid hS
          have HL := Lib.hid hL
          have HH := Lib.hid hH
          obtain ⟨H, hHq⟩ : ∃ H, hSum T k = H := ⟨_, rfl⟩
          rw [hHq] at hbd e1 HS ⊢
          obtain rfl : H = need := by omega
          have wv : IntKind.i64.wrap (H + -1) = H - 1 := IntWalk.i64_in _ (by omega)
          have wv2 : IntKind.i64.wrap (H - 1) = H - 1 := IntWalk.i64_in _ (by omega)
          have HV : Hid (hSum T (k + 1) = H - 1) := HS.out
          obtain ⟨X, hX⟩ : ∃ X, (T k).1 = X := ⟨_, rfl⟩
          simp only [hX] at d0 HL HH
          clear hL0 hH0 hS hL hH e0 e1  e3 e4 hHq hX HS
          go_wp2_with fail
          refine ⟨⟨k + 1, _, by omega, by go_num, by rw [HV.out], rfl, HF2.out, ?_, ((Below.heap_alloc _ _ g (by simp [World.setCell]; omega)).trans ((Below.heap_setCell wr ⟨bo, 1, none⟩ _ g (Ne.symm hgb)).trans HG.out)), ((HK.out.setCell (p := ⟨bo, 1, none⟩) (Nat.le_refl _) _).alloc (by simp [World.setCell]; omega) _)⟩, by simp [intOf]; omega⟩
          rw [HL.out, HH.out]
          exact (al_old (set_1 HO1.out) _)
        · rw [e0] at d1 hS
          rw [e3, ← hL0] at hL
          rw [e4, ← hH0] at hH
          have HF2 : Hid ((fb = false ∧ fnd T need (k + 1) = 0) ∨ (fb = true ∧ fnd T need (k + 1) ≠ 0)) := by rw [e3]; exact HF.out
          have HS := Lib.hid hS
          have HL := Lib.hid hL
          have HH := Lib.hid hH
          obtain ⟨H, hHq⟩ : ∃ H, hSum T k = H := ⟨_, rfl⟩
          rw [hHq] at hbd e1 HS ⊢
          have wv : IntKind.i64.wrap (H + -1) = H - 1 := IntWalk.i64_in _ (by omega)
          have wv2 : IntKind.i64.wrap (need - 1) = need - 1 := IntWalk.i64_in _ (by omega)
          have ne1 : (H - 1 == need - 1) = false := by simpa using e1
          have HV : Hid (hSum T (k + 1) = H - 1) := HS.out
          obtain ⟨X, hX⟩ : ∃ X, (T k).1 = X := ⟨_, rfl⟩
          simp only [hX] at d0 HL HH
          clear hL0 hH0 hS hL hH e0 e1  e3 e4 hHq hX HS
          go_wp2_with fail
          refine ⟨⟨k + 1, _, by omega, by go_num, by rw [HV.out], rfl, HF2.out, ?_, ((Below.heap_alloc _ _ g hgw).trans HG.out), (HK.out.alloc hbw _)⟩, by simp [intOf]; omega⟩
          rw [HL.out, HH.out]
          exact (al_old HO1.out _)
      · obtain rfl : k = n * 2 := by omega
        have a0 := (HK.out.block _ hl2).trans A0.out
        have q0 : wr.cell? ⟨w.heap.size, 0, none⟩ = some (.int .i64 0) := cell_h a0 rfl
        have q1 : wr.cell? ⟨w.heap.size, 1, none⟩ = some (.int .i64 0) := cell_h a0 rfl
        have z : ∀ o, wr.frozen? ⟨w.heap.size, o, none⟩ = false := fun o => frozen_own a0 o
        have c0 : wr.cell? ⟨bo, 0, none⟩ = some (.int .i64 (loV T need (n * 2))) := cell_h HO1.out rfl
        have c1 : wr.cell? ⟨bo, 1, none⟩ = some (.int .i64 (hiV T need (n * 2))) := cell_h HO1.out rfl
        have hBw : Below w.heap.size w wr := HB.out.trans (HK.out.mono (by omega))
        have HBw := Lib.hid hBw
        have hO : (fb = false ∧ VoteOut n f v 0 0 5) ∨ (fb = true ∧ VoteOut n f v (loV T need (n * 2)) (hiV T need (n * 2)) 0) := by
          rcases HF.out with ⟨h1, h2⟩ | ⟨h1, h2⟩
          · refine .inl ⟨h1, .inr (.inl ⟨H0.out, fun x => ?_, rfl, rfl, rfl⟩)⟩
            rw [HN.out]
            exact swp_none HWs.out hnd.1 h2 x
          · refine .inr ⟨h1, .inr (.inr ⟨H0.out, ?_, rfl⟩)⟩
            obtain ⟨j, hj⟩ : ∃ j, fnd T need (n * 2) = j + 1 := ⟨fnd T need (n * 2) - 1, by omega⟩
            obtain ⟨m, hm, hv2⟩ := swp_found HWs.out hnd.1 hj
            unfold loV hiV
            rw [HN.out, hj, hm, if_neg (by omega), if_neg (by omega), Nat.add_sub_cancel, Nat.add_sub_cancel]
            exact hv2
        generalize loV T need (n * 2) = LO at c0 hO
        generalize hiV T need (n * 2) = HI at c1 hO
        rcases hO with ⟨rfl, hO⟩ | ⟨rfl, hO⟩
        · have HO2 := Lib.hid hO
          clear a0 hBw hO c0 c1
          go_wp2_with fail
          exact bodyPost_ret (v := resW 0 0 5) (by simp [results, Try.f26, go_sem, resW, q0, q1]) rfl ⟨0, 0, 5, rfl, HO2.out, (HBw.out.setCell (p := ⟨w.heap.size, 0, none⟩) (Nat.le_refl _) _).setCell (p := ⟨w.heap.size, 1, none⟩) (Nat.le_refl _) _⟩
        · have HO2 := Lib.hid hO
          clear a0 hBw hO
          go_wp2_with fail
          exact bodyPost_ret (v := resW LO HI 0) (by simp [results, Try.f26, go_sem, resW, q0, q1]) rfl ⟨LO, HI, 0, rfl, HO2.out, (HBw.out.setCell (p := ⟨w.heap.size, 0, none⟩) (Nat.le_refl _) _).setCell (p := ⟨w.heap.size, 1, none⟩) (Nat.le_refl _) _⟩
  · obtain ⟨r, hr⟩ : ∃ r, voE n f v = r := ⟨_, rfl⟩
    have hne : (r == 0) = false := by rw [← hr]; simpa using h0
    have hne2 : (r != 0) = true := by rw [← hr]; simpa using h0
    have HV : Hid (VoteOut n f v 0 0 r) := .inl ⟨h0, rfl, rfl, hr.symm⟩
    have q0 : W2.cell? ⟨w.heap.size, 0, none⟩ = some (.int .i64 0) := cell_h a0 rfl
    have q1 : W2.cell? ⟨w.heap.size, 1, none⟩ = some (.int .i64 0) := cell_h a0 rfl
    have z : ∀ o, W2.frozen? ⟨w.heap.size, o, none⟩ = false := fun o => by simp [World.frozen?, a0]
    rw [hr]
    clear h0 hr a0
    go_wp2_with fail
    exact bodyPost_ret (v := resW 0 0 r) (by simp [results, Try.f26, go_sem, resW, q0, q1]) rfl ⟨0, 0, r, rfl, HV.out, (HB.out.setCell (p := ⟨w.heap.size, 0, none⟩) (Nat.le_refl _) _).setCell (p := ⟨w.heap.size, 1, none⟩) (Nat.le_refl _) _⟩
end Go.Proofs.Yteinabcklmpcjaa
