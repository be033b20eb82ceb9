/-
  WALKS: the text of a line.
-/
import Derived.Test.YtbpifllkimkokaaDoorLnR
import Derived.Test.YtbpifllkimkokaaDoorLnP
import Derived.Deep.RegionHeld3
namespace Go.Proofs.YtbpifllkimkokaaDoor
open Go.RowKit

/-- The word of a kind. -/
def wordB (K : Int) : ByteArray := if K = 0 then ⟨#[112, 105, 112, 101]⟩ else if K = 1 then ⟨#[98, 101, 110, 100]⟩ else ⟨#[118, 97, 108, 118, 101]⟩
def numN (K : Int) : Nat := if K = 1 then 6 else 5
/-- The text of n items, of n zones, of n limits. -/
def itemsT (f : Nat → Int) : Nat → List UInt8
  | 0 => []
  | n + 1 => itemsT f n ++ lineT (wordB (f (n * 7))).data.toList (fun j => f (n * 7 + 1 + j)) (numN (f (n * 7)))
def zonesT (z : Nat → Int) : Nat → List UInt8
  | 0 => []
  | n + 1 => zonesT z n ++ lineT [122, 111, 110, 101] (fun j => z (n * 3 + j)) 3
def limitsT (m : Nat → Int) : Nat → List UInt8
  | 0 => []
  | n + 1 => limitsT m n ++ lineT [108, 105, 109, 105, 116] (fun j => m (n * 2 + j)) 2

theorem wordB_size (K : Int) : (wordB K).size ≤ 5 := by
  unfold wordB
  split
  · decide
  · split <;> decide
theorem numN_le (K : Int) : 5 ≤ numN K ∧ numN K ≤ 6 := by unfold numN; split <;> omega
/-- All of n numbers are int64's. -/
def I64s (f : Nat → Int) (n : Nat) : Prop := ∀ i, i < n → -9223372036854775808 ≤ f i ∧ f i ≤ 9223372036854775807
theorem lineT_len (word : List UInt8) (nf : Nat → Int) (n : Nat) (hw : word.length ≤ 5) (hn : n ≤ 6) (h : I64s nf n) : (lineT word nf n).length ≤ 140 := by
  have := numsT_len nf n h
  unfold lineT
  simp only [List.length_append, List.length_cons, List.length_nil]
  omega
theorem wordB_len (K : Int) : (wordB K).data.toList.length ≤ 5 := by
  have h := wordB_size K
  have e : (wordB K).data.toList.length = (wordB K).size := Array.length_toList
  omega
theorem itemsT_len (f : Nat → Int) : ∀ n, I64s f (n * 7) → (itemsT f n).length ≤ n * 140
  | 0, _ => by simp [itemsT]
  | n + 1, h => by
    have h1 := itemsT_len f n fun i hi => h i (by omega)
    have h2 := lineT_len (wordB (f (n * 7))).data.toList (fun j => f (n * 7 + 1 + j)) (numN (f (n * 7))) (wordB_len _) (numN_le _).2 (fun i hi => h _ (by have := (numN_le (f (n * 7))).2; omega))
    simp only [itemsT, List.length_append]
    omega
theorem zonesT_len (z : Nat → Int) : ∀ n, I64s z (n * 3) → (zonesT z n).length ≤ n * 140
  | 0, _ => by simp [zonesT]
  | n + 1, h => by
    have h1 := zonesT_len z n fun i hi => h i (by omega)
    have h2 := lineT_len [122, 111, 110, 101] (fun j => z (n * 3 + j)) 3 (by decide) (by omega) (fun i hi => h _ (by omega))
    simp only [zonesT, List.length_append]
    omega
theorem limitsT_len (m : Nat → Int) : ∀ n, I64s m (n * 2) → (limitsT m n).length ≤ n * 140
  | 0, _ => by simp [limitsT]
  | n + 1, h => by
    have h1 := limitsT_len m n fun i hi => h i (by omega)
    have h2 := lineT_len [108, 105, 109, 105, 116] (fun j => m (n * 2 + j)) 2 (by decide) (by omega) (fun i hi => h _ (by omega))
    simp only [limitsT, List.length_append]
    omega

theorem itemN_of (K : Int) (w : World) : Calls Tryd.prog 93 #[.int .i64 K] w fun e w' => e = .returned (.int .i64 (numN K : Nat)) ∧ w' = w := by
  unfold numN
  by_cases h : K = 1
  · subst h
    go_enter Tryd.func93, Tryd.ntmps93
    go_wp2
    go_ret
    exact ⟨rfl, rfl⟩
  · have h2 : (K == 1) = false := by simpa using h
    rw [if_neg h]
    clear h
    go_enter Tryd.func93, Tryd.ntmps93
    go_wp2
    go_ret
    exact ⟨rfl, rfl⟩

/-- The variables that a text reads: the words of the kinds, strconv's table. -/
def Txt (w : World) : Prop := (w.cell? ⟨0, 0, none⟩ = some (.string (wordB 0)) ∧ w.cell? ⟨0, 1, none⟩ = some (.string (wordB 1)) ∧ w.cell? ⟨0, 2, none⟩ = some (.string (wordB 2))) ∧
  Lib.TabIs Tryd.prog w "internal/strconv.uint64pow10" .u64 Lib.pow10Tab
theorem Txt.word {w : World} (h : Txt w) {K : Int} (hK : 0 ≤ K ∧ K ≤ 2) : w.cell? ⟨0, K.toNat, none⟩ = some (.string (wordB K)) := by
  rcases (by omega : K = 0 ∨ K = 1 ∨ K = 2) with rfl | rfl | rfl
  · exact h.1.1
  · exact h.1.2.1
  · exact h.1.2.2
theorem Txt.keep {w w' : World} (h : Txt w) (hb : Below w.heap.size w w') : Txt w' := by
  have e : ∀ q r x, w.cell? ⟨q, r, none⟩ = some x → w'.cell? ⟨q, r, none⟩ = some x := fun q r x hx => (hb.cell (p := ⟨q, r, none⟩) (World.block_lt_of_cell? w _ hx)).trans hx
  exact ⟨⟨e _ _ _ h.1.1, e _ _ _ h.1.2.1, e _ _ _ h.1.2.2⟩, Lib.tabBelow_of_tabIs h.2 w' hb⟩
theorem Txt.lt {w : World} (h : Txt w) : 0 < w.heap.size := World.block_lt_of_cell? w _ h.1.1

theorem bld_new (w : World) : Bld w.heap.size (Lib.byteCells []) (w.alloc (.cells #[.pointer none, .slice none 0 0] 150)) :=
  .inl ⟨Nat.le_refl _, .slice none 0 0, World.alloc_heap_new w _, ⟨rfl, .inl ⟨rfl, rfl⟩⟩, by simp [Value.ownBlock]⟩

/-- What Text hands back. -/
def TxP (E : Int) (s : List UInt8) (w : World) (e : Ending) (w' : World) : Prop :=
  Below w.heap.size w w' ∧ ((E ≠ 0 ∧ e = .returned (.tuple #[.string ⟨#[]⟩, .int .i64 E])) ∨ (E = 0 ∧ e = .returned (.tuple #[.string ⟨s.toArray⟩, .int .i64 0])))

set_option maxRecDepth 100000 in
set_option maxHeartbeats 6400000 in
theorem text_of (w : World) (a za la : Option Addr) (n c nz zc nl lc : Nat) (f z m : Nat → Int) (hS : Sl w 7 a n f) (hZ : Sl w 3 za nz z) (hL : Sl w 2 la nl m) (hf : I64s f (n * 7)) (hz : I64s z (nz * 3)) (hm : I64s m (nl * 2)) (hT : Txt w) :
    Calls Tryd.prog 54 #[.agg #[.slice a n c, .slice za nz zc, .slice la nl lc]] w (TxP (chk n nz nl f z m) (itemsT f n ++ zonesT z nz ++ limitsT m nl) w) := by
  have HCK : Hid (∀ w', Below w.heap.size w w' → Calls Tryd.prog 56 #[.agg #[.slice a n c, .slice za nz zc, .slice la nl lc]] w' fun e' w2 => e' = .returned (.int .i64 (chk n nz nl f z m)) ∧ Below w'.heap.size w' w2) :=
    fun w' hb => check_of w' a za la n c nz zc nl lc f z m (hS.keep (by omega) hb) (hZ.keep (by omega) hb) (hL.keep (by omega) hb)
  have HOK : Hid (chk n nz nl f z m = 0 → (1 ≤ n ∧ n ≤ 64) ∧ nz ≤ 64 ∧ nl ≤ 64 ∧ (∀ i, i < n → itAt f i = 0) ∧ (∀ i, i < nz → znAt z (endS f n) i = 0) ∧ (∀ i, i < nl → lmAt m (endS f n) i = 0)) := chk_ok
  have hgl := hT.lt
  have HS := Lib.hid hS
  have HZ := Lib.hid hZ
  have HL := Lib.hid hL
  have HF := Lib.hid hf
  have HFZ := Lib.hid hz
  have HFM := Lib.hid hm
  have HT := Lib.hid hT
  clear hS hZ hL hf hz hm hT
  generalize chk n nz nl f z m = E at HCK HOK ⊢
  obtain ⟨res, hres⟩ : ∃ res, res = itemsT f n ++ zonesT z nz ++ limitsT m nl := ⟨_, rfl⟩
  rw [← hres]
  have HRES := Lib.hid hres
  clear hres
  go_enter Tryd.func54, Tryd.ntmps54
  go_wp2_with fail
  obtain ⟨W, hW⟩ : ∃ W, W = w.alloc (.cells #[.slice a n c, .slice za nz zc, .slice la nl lc] 26) := ⟨_, rfl⟩
  have hBW : Hid (Below w.heap.size w W) := by rw [hW]; exact (Below.refl _ _).alloc (Nat.le_refl _) _
  have hsz : W.heap.size = w.heap.size + 1 := by rw [hW]; simp
  have x0 : W.cell? ⟨w.heap.size, 0, none⟩ = some (.slice a n c) := by rw [hW]; go_simp
  have x1 : W.cell? ⟨w.heap.size, 1, none⟩ = some (.slice za nz zc) := by rw [hW]; go_simp
  have x2 : W.cell? ⟨w.heap.size, 2, none⟩ = some (.slice la nl lc) := by rw [hW]; go_simp
  rw [← hW]
  clear hW
  refine (HCK.out W hBW.out).mono ?_
  rintro e' w2 ⟨rfl, hb2⟩
  have hx : ∀ b o, b < W.heap.size → w2.cell? ⟨b, o, none⟩ = W.cell? ⟨b, o, none⟩ := fun b o h => hb2.cell (p := ⟨b, o, none⟩) h
  have y0 := (hx w.heap.size 0 (by omega)).trans x0
  have y1 := (hx w.heap.size 1 (by omega)).trans x1
  have y2 := (hx w.heap.size 2 (by omega)).trans x2
  have hs2 := hb2.size
  have HB2 : Hid (Below w.heap.size w w2) := hBW.out.trans (hb2.mono (by omega))
  clear hb2 hx x0 x1 x2
  by_cases hE : E = 0
  · subst hE
    have hok := HOK.out rfl
    have HV : Hid (∀ i, i < n → itAt f i = 0) := hok.2.2.2.1
    have hn : n ≤ 64 := hok.1.2
    have hn1 : 1 ≤ n := hok.1.1
    have hnz : nz ≤ 64 := hok.2.1
    have hnl : nl ≤ 64 := hok.2.2.1
    have hlt0 : w.heap.size < w2.heap.size := by omega
    clear hok HOK HCK
    go_wp2_with fail
    obtain ⟨W3, hW3⟩ : ∃ W3, W3 = w2.alloc (.cells #[.pointer none, .slice none 0 0] 150) := ⟨_, rfl⟩
    have HB3 : Hid (Below w.heap.size w W3) := by rw [hW3]; exact HB2.out.alloc HB2.out.size _
    have hs3 : W3.heap.size = w2.heap.size + 1 := by rw [hW3]; simp
    have HBL : Hid (Bld w2.heap.size (Lib.byteCells []) W3) := by rw [hW3]; exact bld_new w2
    have HY : Hid (W3.cell? ⟨w.heap.size, 0, none⟩ = some (.slice a n c) ∧ W3.cell? ⟨w.heap.size, 1, none⟩ = some (.slice za nz zc) ∧ W3.cell? ⟨w.heap.size, 2, none⟩ = some (.slice la nl lc)) := by
      rw [hW3]; exact three_keep ⟨y0, y1, y2⟩ ((Below.refl _ _).alloc (Nat.le_refl _) _)
    have HTB : Hid (Lib.TabBelow Tryd.prog w2.heap.size W3 "internal/strconv.uint64pow10" .u64 Lib.pow10Tab) := fun w' hb => by
      have h3 : Below w.heap.size w w' := HB3.out.trans (hb.mono (by omega))
      exact Lib.tabBelow_of_tabIs HT.out.2 w' h3
    rw [← hW3]
    clear hW3 y0 y1 y2
    go_loopw [23] (fun vi wr => ∃ i : Nat, i ≤ n ∧ vi = .int .i64 i ∧ Hid (Bld w2.heap.size (Lib.byteCells (itemsT f i)) wr ∧ Below w2.heap.size W3 wr)) (fun vi _ => n - (intOf vi).toNat)
    case atStart => exact ⟨0, by omega, rfl, HBL.out, Below.refl _ _⟩
    case round =>
      obtain ⟨i, hi, rfl, HR⟩ := hrel
      have hsr := HR.out.2.size
      by_cases hlt : i < n
      · obtain ⟨b, o, rfl, hI⟩ := HS.out (by omega)
        have hbl := hI.lt (by omega)
        have hBr : Below w.heap.size w wr := HB3.out.trans (HR.out.2.mono (by omega))
        have hI2 := hI.keep hBr hbl
        have d0 := hI2 (i * 7) (by omega)
        have d1 := hI2.at (i * 7) 1 (by omega)
        have d2 := hI2.at (i * 7) 2 (by omega)
        have d3 := hI2.at (i * 7) 3 (by omega)
        have d4 := hI2.at (i * 7) 4 (by omega)
        have d5 := hI2.at (i * 7) 5 (by omega)
        have d6 := hI2.at (i * 7) 6 (by omega)
        have hK := (itErr_ok (HV.out i hlt)).1
        clear hI hI2
        obtain ⟨Wc, hWc⟩ : ∃ Wc, Wc = (wr.alloc (.cells #[.int .i64 (f (i * 7)), .int .i64 (f (i * 7 + 1)), .int .i64 (f (i * 7 + 2)), .int .i64 (f (i * 7 + 3)), .int .i64 (f (i * 7 + 4)), .int .i64 (f (i * 7 + 5)), .int .i64 (f (i * 7 + 6))] 72)).alloc (.cells #[.int .i64 (f (i * 7 + 1)), .int .i64 (f (i * 7 + 2)), .int .i64 (f (i * 7 + 3)), .int .i64 (f (i * 7 + 4)), .int .i64 (f (i * 7 + 5)), .int .i64 (f (i * 7 + 6))] 157) := ⟨_, rfl⟩
        have hbc : Below wr.heap.size wr Wc.drew := by rw [hWc]; exact (((Below.refl _ _).alloc (Nat.le_refl _) _).alloc (by simp) _).drew
        have hh0 : Wc.drew.heap[wr.heap.size]? = some (.cells #[.int .i64 (f (i * 7)), .int .i64 (f (i * 7 + 1)), .int .i64 (f (i * 7 + 2)), .int .i64 (f (i * 7 + 3)), .int .i64 (f (i * 7 + 4)), .int .i64 (f (i * 7 + 5)), .int .i64 (f (i * 7 + 6))] 72 (0, 0)) := by
          rw [hWc]; exact (Below.heap_alloc _ _ _ (by simp)).trans (World.alloc_heap_new wr _)
        have hh1 : Wc.drew.heap[wr.heap.size + 1]? = some (.cells #[.int .i64 (f (i * 7 + 1)), .int .i64 (f (i * 7 + 2)), .int .i64 (f (i * 7 + 3)), .int .i64 (f (i * 7 + 4)), .int .i64 (f (i * 7 + 5)), .int .i64 (f (i * 7 + 6))] 157 (0, 0)) := by
          have hh := World.alloc_heap_new (wr.alloc (.cells #[.int .i64 (f (i * 7)), .int .i64 (f (i * 7 + 1)), .int .i64 (f (i * 7 + 2)), .int .i64 (f (i * 7 + 3)), .int .i64 (f (i * 7 + 4)), .int .i64 (f (i * 7 + 5)), .int .i64 (f (i * 7 + 6))] 72)) (.cells #[.int .i64 (f (i * 7 + 1)), .int .i64 (f (i * 7 + 2)), .int .i64 (f (i * 7 + 3)), .int .i64 (f (i * 7 + 4)), .int .i64 (f (i * 7 + 5)), .int .i64 (f (i * 7 + 6))] 157)
          simp only [World.size_alloc] at hh
          rw [hWc]; exact hh
        have hk0 : Wc.drew.cell? ⟨wr.heap.size, 0, none⟩ = some (.int .i64 (f (i * 7))) := by simp only [World.cell?, hh0]; rfl
        have hkw : Wc.drew.cell? ⟨0, (f (i * 7)).toNat, none⟩ = some (.string (wordB (f (i * 7)))) :=
          ((hbc.cell (p := ⟨0, (f (i * 7)).toNat, none⟩) (by show 0 < wr.heap.size; omega)).trans (hBr.cell (p := ⟨0, (f (i * 7)).toNat, none⟩) hgl)).trans (HT.out.word hK)
        have hints : Ints Wc.drew (wr.heap.size + 1) 0 (numN (f (i * 7))) (fun j => f (i * 7 + 1 + j)) := by
          intro j hj
          have hq := (numN_le (f (i * 7))).2
          rw [Nat.zero_add]
          simp only [World.cell?, hh1]
          rcases (by omega : j = 0 ∨ j = 1 ∨ j = 2 ∨ j = 3 ∨ j = 4 ∨ j = 5) with rfl | rfl | rfl | rfl | rfl | rfl <;> rfl
        have hC := text1_of w2.heap.size (wr.heap.size + 1) (numN (f (i * 7))) 6 (wordB (f (i * 7))) (fun j => f (i * 7 + 1 + j)) (itemsT f i) _ 157 (0, 0) Wc.drew (bld_below HR.out.1 hbc) hh1 (by decide) (by omega) hints (numN_le _).2
          (fun j hj => HF.out _ (by have := (numN_le (f (i * 7))).2; omega)) (by have := itemsT_len f i (fun j hj => HF.out j (by omega)); omega) (by have := wordB_size (f (i * 7)); omega)
          (Nat.lt_of_lt_of_le (by omega) hbc.size) (fun w' hb => HTB.out w' ((HR.out.2.trans (hbc.mono (by omega))).trans hb))
        have hIN := itemN_of (f (i * 7))
        have hIT : itemsT f (i + 1) = itemsT f i ++ lineT (wordB (f (i * 7))).data.toList (fun j => f (i * 7 + 1 + j)) (numN (f (i * 7))) := rfl
        have hq := numN_le (f (i * 7))
        rw [← hIT] at hC
        generalize numN (f (i * 7)) = q at hC hIN hq
        clear hIT hints
        have hsl : ∀ W, (Instr.sliceAt 157 (.pointer (some ⟨wr.heap.size + 1, 0, none⟩)) none (some (.int .i64 ((q : Nat) : Int))) none).run Tryd.prog W = .ok (.slice (some ⟨wr.heap.size + 1, 0, none⟩) q 6) W := by
          rcases (by omega : q = 5 ∨ q = 6) with rfl | rfl
          · exact fun W => by kernel_rfl
          · exact fun W => by kernel_rfl
        have HC := Lib.hid hC
        have HIN := Lib.hid hIN
        have HBC : Hid (Below w2.heap.size W3 Wc.drew) := HR.out.2.trans (hbc.mono (by omega))
        have HN0 : Hid (Wc.drew.cell? ⟨wr.heap.size, 0, none⟩ = some (.int .i64 (f (i * 7))) ∧ Wc.drew.cell? ⟨0, (f (i * 7)).toNat, none⟩ = some (.string (wordB (f (i * 7))))) := ⟨hk0, hkw⟩
        have HH0 := Lib.hid hh0
        obtain ⟨hK1, hK2⟩ := hK
        have hK3 : f (i * 7) < 3 := by omega
        clear hC hIN hbc hh0 hh1 hk0 hkw hBr
        go_wp2_with fail
        rw [← hWc]
        clear hWc d0 d1 d2 d3 d4 d5 d6
        go_region_held3 (fun W' => W'.cell? ⟨wr.heap.size, 0, none⟩ = some (.int .i64 (f (i * 7))) ∧ W'.cell? ⟨0, (f (i * 7)).toNat, none⟩ = some (.string (wordB (f (i * 7)))))
          (first | (exact HN0.out) | (exact hN5))
          (first
            | (go_at_call 93; refine (HIN.out _).mono ?_; rintro e4 W4 ⟨rfl, hw4⟩; (obtain rfl := hw4.symm))
            | (go_at_call 90; refine HC.out.mono ?_; rintro e5 W5 ⟨rfl, hB5, hb5, hk5⟩; (have hN5 : W5.cell? ⟨wr.heap.size, 0, none⟩ = some (.int .i64 (f (i * 7))) ∧ W5.cell? ⟨0, (f (i * 7)).toNat, none⟩ = some (.string (wordB (f (i * 7)))) := ⟨by have hh := others_cell hk5 HH0.out (by decide) (by omega); simp only [World.cell?, hh]; rfl, (hb5.cell (p := ⟨0, (f (i * 7)).toNat, none⟩) (by show 0 < w2.heap.size; omega)).trans HN0.out.2⟩)))
        all_goals
          have HR5 : Hid (Bld w2.heap.size (Lib.byteCells (itemsT f (i + 1))) W5 ∧ Below w2.heap.size W3 W5) := ⟨hB5, HBC.out.trans hb5⟩
          clear hN5 hB5 hb5 hk5
          go_wp2
          exact ⟨⟨i + 1, by omega, by go_num, HR5⟩, by simp [intOf]; omega⟩
      · obtain rfl : i = n := by omega
        have HR1 := HR
        have y1 : wr.cell? ⟨w.heap.size, 1, none⟩ = some (.slice za nz zc) := (HR.out.2.cell (p := ⟨w.heap.size, 1, none⟩) hlt0).trans HY.out.2.1
        have hlt1 : w.heap.size < wr.heap.size := by omega
        clear HR
        go_wp2_with fail
        clear y1
        go_loopw [54] (fun vi wr => ∃ k : Nat, k ≤ nz ∧ vi = .int .i64 k ∧ Hid (Bld w2.heap.size (Lib.byteCells (itemsT f i ++ zonesT z k)) wr ∧ Below w2.heap.size W3 wr)) (fun vi _ => nz - (intOf vi).toNat)
        case atStart => exact ⟨0, by omega, rfl, by rw [zonesT, List.append_nil]; exact HR1.out.1, HR1.out.2⟩
        case round =>
          obtain ⟨k, hk, rfl, HR⟩ := hrel
          have hsr := HR.out.2.size
          by_cases hlt : k < nz
          · obtain ⟨b, o, rfl, hI⟩ := HZ.out (by omega)
            have hbl := hI.lt (by omega)
            have hBr : Below w.heap.size w wr := HB3.out.trans (HR.out.2.mono (by omega))
            have hI2 := hI.keep hBr hbl
            have d0 := hI2 (k * 3) (by omega)
            have d1 := hI2.at (k * 3) 1 (by omega)
            have d2 := hI2.at (k * 3) 2 (by omega)
            clear hI hI2
            obtain ⟨Wc, hWc⟩ : ∃ Wc, Wc = (wr.alloc (.cells #[.int .i64 (z (k * 3)), .int .i64 (z (k * 3 + 1)), .int .i64 (z (k * 3 + 2))] 84)).alloc (.cells #[.int .i64 (z (k * 3)), .int .i64 (z (k * 3 + 1)), .int .i64 (z (k * 3 + 2))] 3) := ⟨_, rfl⟩
            have hbc : Below wr.heap.size wr Wc := by rw [hWc]; exact ((Below.refl _ _).alloc (Nat.le_refl _) _).alloc (by simp) _
            have hszc : Wc.heap.size = wr.heap.size + 2 := by rw [hWc]; simp
            have hh1 : Wc.heap[wr.heap.size + 1]? = some (.cells #[.int .i64 (z (k * 3)), .int .i64 (z (k * 3 + 1)), .int .i64 (z (k * 3 + 2))] 3 (0, 0)) := by
              have hh := World.alloc_heap_new (wr.alloc (.cells #[.int .i64 (z (k * 3)), .int .i64 (z (k * 3 + 1)), .int .i64 (z (k * 3 + 2))] 84)) (.cells #[.int .i64 (z (k * 3)), .int .i64 (z (k * 3 + 1)), .int .i64 (z (k * 3 + 2))] 3)
              simp only [World.size_alloc] at hh
              rw [hWc]; exact hh
            have hints : Ints Wc (wr.heap.size + 1) 0 3 (fun j => z (k * 3 + j)) := by
              intro j hj
              rw [Nat.zero_add]
              simp only [World.cell?, hh1]
              rcases (by omega : j = 0 ∨ j = 1 ∨ j = 2) with rfl | rfl | rfl <;> rfl
            have hlen0 : (itemsT f i ++ zonesT z k).length ≤ 100000 := by
              have h1 := itemsT_len f i (fun j hj => HF.out j (by omega))
              have h2 := zonesT_len z k (fun j hj => HFZ.out j (by omega))
              rw [List.length_append]
              omega
            have hC := text1_of w2.heap.size (wr.heap.size + 1) 3 3 ⟨#[122, 111, 110, 101]⟩ (fun j => z (k * 3 + j)) (itemsT f i ++ zonesT z k) _ 3 (0, 0) Wc (bld_below HR.out.1 hbc) hh1 (by decide) (by omega) hints (by omega)
              (fun j hj => HFZ.out _ (by omega)) (by omega) (by decide) (by omega) (fun w' hb => HTB.out w' ((HR.out.2.trans (hbc.mono (by omega))).trans hb))
            have hIT : itemsT f i ++ zonesT z (k + 1) = itemsT f i ++ zonesT z k ++ lineT ((⟨#[122, 111, 110, 101]⟩ : ByteArray).data.toList) (fun j => z (k * 3 + j)) 3 := (List.append_assoc _ _ _).symm
            rw [← hIT] at hC
            have HC := Lib.hid hC
            have HBC : Hid (Below w2.heap.size W3 Wc) := HR.out.2.trans (hbc.mono (by omega))
            clear hC hbc hh1 hints hIT hlen0 hszc hBr HR
            go_wp2_with fail
            rw [← hWc]
            clear hWc d0 d1 d2
            refine HC.out.mono ?_
            rintro e5 W5 ⟨rfl, hB5, hb5, hk5⟩
            have HR5 : Hid (Bld w2.heap.size (Lib.byteCells (itemsT f i ++ zonesT z (k + 1))) W5 ∧ Below w2.heap.size W3 W5) := ⟨hB5, HBC.out.trans hb5⟩
            clear hB5 hb5 hk5
            go_wp2
            exact ⟨⟨k + 1, by omega, by go_num, HR5⟩, by simp [intOf]; omega⟩
          · obtain rfl : k = nz := by omega
            have HR2 := HR
            have y2 : wr.cell? ⟨w.heap.size, 2, none⟩ = some (.slice la nl lc) := (HR.out.2.cell (p := ⟨w.heap.size, 2, none⟩) hlt0).trans HY.out.2.2
            have hlt2 : w.heap.size < wr.heap.size := by omega
            clear HR
            go_wp2_with fail
            clear y2
            go_loopw [71] (fun vi wr => ∃ q : Nat, q ≤ nl ∧ vi = .int .i64 q ∧ Hid (Bld w2.heap.size (Lib.byteCells (itemsT f i ++ zonesT z k ++ limitsT m q)) wr ∧ Below w2.heap.size W3 wr)) (fun vi _ => nl - (intOf vi).toNat)
            case atStart => exact ⟨0, by omega, rfl, by rw [limitsT, List.append_nil]; exact HR2.out.1, HR2.out.2⟩
            case round =>
              obtain ⟨q, hk, rfl, HR⟩ := hrel
              have hsr := HR.out.2.size
              by_cases hlt : q < nl
              · obtain ⟨b, o, rfl, hI⟩ := HL.out (by omega)
                have hbl := hI.lt (by omega)
                have hBr : Below w.heap.size w wr := HB3.out.trans (HR.out.2.mono (by omega))
                have hI2 := hI.keep hBr hbl
                have d0 := hI2 (q * 2) (by omega)
                have d1 := hI2.at (q * 2) 1 (by omega)
                clear hI hI2
                obtain ⟨Wc, hWc⟩ : ∃ Wc, Wc = (wr.alloc (.cells #[.int .i64 (m (q * 2)), .int .i64 (m (q * 2 + 1))] 104)).alloc (.cells #[.int .i64 (m (q * 2)), .int .i64 (m (q * 2 + 1))] 3) := ⟨_, rfl⟩
                have hbc : Below wr.heap.size wr Wc := by rw [hWc]; exact ((Below.refl _ _).alloc (Nat.le_refl _) _).alloc (by simp) _
                have hszc : Wc.heap.size = wr.heap.size + 2 := by rw [hWc]; simp
                have hh1 : Wc.heap[wr.heap.size + 1]? = some (.cells #[.int .i64 (m (q * 2)), .int .i64 (m (q * 2 + 1))] 3 (0, 0)) := by
                  have hh := World.alloc_heap_new (wr.alloc (.cells #[.int .i64 (m (q * 2)), .int .i64 (m (q * 2 + 1))] 104)) (.cells #[.int .i64 (m (q * 2)), .int .i64 (m (q * 2 + 1))] 3)
                  simp only [World.size_alloc] at hh
                  rw [hWc]; exact hh
                have hints : Ints Wc (wr.heap.size + 1) 0 2 (fun j => m (q * 2 + j)) := by
                  intro j hj
                  rw [Nat.zero_add]
                  simp only [World.cell?, hh1]
                  rcases (by omega : j = 0 ∨ j = 1) with rfl | rfl <;> rfl
                have hlen0 : (itemsT f i ++ zonesT z k ++ limitsT m q).length ≤ 100000 := by
                  have h1 := itemsT_len f i (fun j hj => HF.out j (by omega))
                  have h2 := zonesT_len z k (fun j hj => HFZ.out j (by omega))
                  have h3 := limitsT_len m q (fun j hj => HFM.out j (by omega))
                  rw [List.length_append, List.length_append]
                  omega
                have hC := text1_of w2.heap.size (wr.heap.size + 1) 2 2 ⟨#[108, 105, 109, 105, 116]⟩ (fun j => m (q * 2 + j)) (itemsT f i ++ zonesT z k ++ limitsT m q) _ 3 (0, 0) Wc (bld_below HR.out.1 hbc) hh1 (by decide) (by omega) hints (by omega)
                  (fun j hj => HFM.out _ (by omega)) (by omega) (by decide) (by omega) (fun w' hb => HTB.out w' ((HR.out.2.trans (hbc.mono (by omega))).trans hb))
                have hIT : itemsT f i ++ zonesT z k ++ limitsT m (q + 1) = itemsT f i ++ zonesT z k ++ limitsT m q ++ lineT ((⟨#[108, 105, 109, 105, 116]⟩ : ByteArray).data.toList) (fun j => m (q * 2 + j)) 2 := (List.append_assoc _ _ _).symm
                rw [← hIT] at hC
                have HC := Lib.hid hC
                have HBC : Hid (Below w2.heap.size W3 Wc) := HR.out.2.trans (hbc.mono (by omega))
                clear hC hbc hh1 hints hIT hlen0 hszc hBr HR
                go_wp2_with fail
                rw [← hWc]
                clear hWc d0 d1
                refine HC.out.mono ?_
                rintro e5 W5 ⟨rfl, hB5, hb5, hk5⟩
                have HR5 : Hid (Bld w2.heap.size (Lib.byteCells (itemsT f i ++ zonesT z k ++ limitsT m (q + 1))) W5 ∧ Below w2.heap.size W3 W5) := ⟨hB5, HBC.out.trans hb5⟩
                clear hB5 hb5 hk5
                go_wp2
                exact ⟨⟨q + 1, by omega, by go_num, HR5⟩, by simp [intOf]; omega⟩
              · obtain rfl : q = nl := by omega
                have hne : itemsT f i ++ zonesT z k ++ limitsT m q ≠ [] := by
                  obtain ⟨i', rfl⟩ : ∃ i', i = i' + 1 := ⟨i - 1, by omega⟩
                  simp [itemsT, lineT]
                rw [← HRES.out] at hne
                have HR3 : Hid (Bld w2.heap.size (Lib.byteCells res) wr ∧ Below w2.heap.size W3 wr) := by rw [HRES.out]; exact HR.out
                have hC := Tryd.Builder_String_k w2.heap.size w2.heap.size res wr HR3.out.1 hne
                have HC := Lib.hid hC
                clear hC hne HR
                go_wp2_with fail
                refine HC.out.mono ?_
                rintro e5 W5 ⟨rfl, hB5, hb5, hk5⟩
                have HB5 : Hid (Below w.heap.size w W5) := HB3.out.trans ((HR3.out.2.trans hb5).mono (by omega))
                clear hB5 hb5 hk5
                go_wp2
                go_ret2
                exact ⟨HB5.out, .inr ⟨rfl, rfl⟩⟩
  · have e2 : (E == 0) = false := by simpa using hE
    have e3 : (E != 0) = true := by simpa using hE
    have HE := Lib.hid hE
    clear hE HOK
    go_wp2
    go_ret2
    exact ⟨HB2.out, .inl ⟨HE.out, rfl⟩⟩
end Go.Proofs.YtbpifllkimkokaaDoor
