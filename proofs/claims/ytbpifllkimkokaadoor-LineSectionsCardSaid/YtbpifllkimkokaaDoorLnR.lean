/-
  WALKS: one line of a text: a word and some numbers.
-/
import Derived.Test.YtbpifllkimkokaaDoorLnQ
import Derived.Lib.ItoaLen
namespace Go.Proofs.YtbpifllkimkokaaDoor
open Go.RowKit

/-- The bytes of n numbers, each with a space ahead. -/
def numsT (nf : Nat → Int) : Nat → List UInt8
  | 0 => []
  | n + 1 => numsT nf n ++ (32 :: Lib.itoa (nf n))
theorem numsT_len (nf : Nat → Int) : ∀ n, (∀ i, i < n → -9223372036854775808 ≤ nf i ∧ nf i ≤ 9223372036854775807) → (numsT nf n).length ≤ n * 22
  | 0, _ => by simp [numsT]
  | n + 1, h => by
    have h1 := numsT_len nf n fun i hi => h i (by omega)
    have h2 := Lib.itoa_length_le (nf n) (h n (by omega)).1 (h n (by omega)).2
    simp only [numsT, List.length_append, List.length_cons]
    omega
/-- One line of a text. -/
def lineT (word : List UInt8) (nf : Nat → Int) (n : Nat) : List UInt8 := word ++ numsT nf n ++ [10]

theorem strCells_eq (s : ByteArray) : Lib.strCells s = Lib.byteCells s.data.toList := rfl
theorem byteCells_app (a b : List UInt8) : Lib.byteCells a ++ Lib.byteCells b = Lib.byteCells (a ++ b) := by simp [Lib.byteCells]

/-- A block of cells that are no bytes, but b, stays. -/
theorem others_cell {w w' : World} {b g : Nat} (h : Lib.OthersKept 5 (some b) w w') {cs : Array Value} {T : TypeId} {fz : Nat × Nat} (hg : w.heap[g]? = some (.cells cs T fz)) (hT : T ≠ 5) (hgb : g ≠ b) : w'.heap[g]? = some (.cells cs T fz) :=
  h g _ hg (fun e => hgb (Option.some.inj e)) (fun c f e => by cases e; exact hT rfl)

theorem others_below {w w' : World} {e : TypeId} {b : Option Nat} (h : Below w.heap.size w w') : Lib.OthersKept e b w w' :=
  fun k _ hk _ _ => (h.block k (Array.getElem?_eq_some_iff.1 hk).1).trans hk
theorem bldAt_below {w w' : World} {b : Nat} {p : Value} {bs : List Value} (h : Lib.BuilderAtF 150 5 b b p bs w) (hb : Below w.heap.size w w') : Lib.BuilderAtF 150 5 b b p bs w' := by
  obtain ⟨h0, v, hv, hr, hn⟩ := h
  refine ⟨h0, v, (hb.block b (Array.getElem?_eq_some_iff.1 hv).1).trans hv, ⟨hr.1, ?_⟩, hn⟩
  rcases hr.2 with h1 | ⟨g, cap, cur, fz, rfl, hg, hc, hrest⟩
  · exact .inl h1
  · exact .inr ⟨g, cap, cur, fz, rfl, hg, (hb.block g (Array.getElem?_eq_some_iff.1 hc).1).trans hc, hrest⟩
theorem bld_below {w w' : World} {b : Nat} {bs : List Value} (h : Bld b bs w) (hb : Below w.heap.size w w') : Bld b bs w' :=
  h.elim (fun x => .inl (bldAt_below x hb)) (fun x => .inr (bldAt_below x hb))

set_option maxHeartbeats 2000000 in
set_option maxRecDepth 100000 in
theorem text1_of (b g n c : Nat) (word : ByteArray) (nf : Nat → Int) (l0 : List UInt8) (cs : Array Value) (T : TypeId) (fz : Nat × Nat) (w : World)
    (hB : Bld b (Lib.byteCells l0) w) (hg : w.heap[g]? = some (.cells cs T fz)) (hT : T ≠ 5) (hgb : g ≠ b) (hI : Ints w g 0 n nf) (hn : n ≤ 6) (hnf : ∀ i, i < n → -9223372036854775808 ≤ nf i ∧ nf i ≤ 9223372036854775807)
    (hl0 : l0.length ≤ 1000000) (hw : word.size ≤ 100) (hbs : b < w.heap.size) (htab : Lib.TabBelow Tryd.prog b w "internal/strconv.uint64pow10" .u64 Lib.pow10Tab) :
    Calls Tryd.prog 90 #[.string word, .slice (some ⟨g, 0, none⟩) n c, .pointer (some ⟨b, 0, none⟩)] w fun e w' => e = .returned (.tuple #[]) ∧ (Bld b (Lib.byteCells (l0 ++ lineT word.data.toList nf n)) w' ∧ Below b w w' ∧ Lib.OthersKept 5 (some b) w w') := by
  have HI := Lib.hid hI
  have HN := Lib.hid hnf
  have HT := Lib.hid htab
  have HG : Hid (w.heap[g]? = some (.cells cs T fz) ∧ T ≠ 5 ∧ g ≠ b) := ⟨hg, hT, hgb⟩
  have HB := Lib.hid hB
  have hlw : (Lib.byteCells l0).length = l0.length := Lib.byteCells_length _
  have HLW := Lib.hid hlw
  clear hI hnf htab hg hT hgb hB hlw
  go_enter Tryd.func90, Tryd.ntmps90
  go_wp2_with fail
  refine (writeString_k b _ word w HB.out (by rw [HLW.out]; omega) (by omega)).mono ?_
  rintro e w1 ⟨rfl, hB1, hb1, hk1⟩
  rw [strCells_eq, byteCells_app] at hB1
  have HB1 := Lib.hid hB1
  have HBW1 := Lib.hid hb1
  have HK1 := Lib.hid hk1
  clear hB1 hb1 hk1
  go_wp2_with fail
  go_loopw [11] (fun vi wr => ∃ i : Nat, i ≤ n ∧ vi = .int .i64 i ∧ Hid (Bld b (Lib.byteCells (l0 ++ word.data.toList ++ numsT nf i)) wr ∧ Below b w wr ∧ Lib.OthersKept 5 (some b) w wr)) (fun vi _ => n - (intOf vi).toNat)
  case atStart => exact ⟨0, by omega, rfl, by rw [numsT, List.append_nil]; exact HB1.out, HBW1.out, HK1.out⟩
  case round =>
    obtain ⟨i, hi, rfl, HR⟩ := hrel
    have hsz := HR.out.2.1.size
    by_cases hlt : i < n
    · have hgr := others_cell HR.out.2.2 HG.out.1 HG.out.2.1 HG.out.2.2
      have hc0 := HI.out i hlt
      have hci : wr.cell? ⟨g, 0 + i, none⟩ = some (.int .i64 (nf i)) := (World.cell?_of_block (a := ⟨g, 0 + i, none⟩) (hgr.trans HG.out.1.symm)).trans hc0
      rw [Nat.zero_add] at hci
      have hnb := HN.out i hlt
      have htb : Lib.TabIs Tryd.prog wr "internal/strconv.uint64pow10" .u64 Lib.pow10Tab := HT.out wr HR.out.2.1
      have hIT := Tryd.strconv_Itoa (nf i) hnb.1 hnb.2 wr htb
      have hlen := Lib.itoa_length_le (nf i) hnb.1 hnb.2
      have hnl := numsT_len nf i fun j hj => HN.out j (by omega)
      have hwl : word.data.toList.length = word.size := Array.length_toList
      obtain ⟨s, hs⟩ : ∃ s : ByteArray, s = ⟨(Lib.itoa (nf i)).toArray⟩ := ⟨_, rfl⟩
      have hs1 : s.size ≤ 21 := by rw [hs]; simpa [ByteArray.size] using hlen
      have hA1 : ∀ W', (Op.stringOp .add ⟨#[32]⟩ s).run Tryd.prog W' = .ok (.string (⟨#[32]⟩ ++ s)) W' := fun W' => run_string_add_sum W' _ _ (by
        have : (⟨#[32]⟩ : ByteArray).size = 1 := rfl
        omega)
      rw [← hs] at hIT
      obtain ⟨s2, hs2⟩ : ∃ s2 : ByteArray, s2 = ⟨#[32]⟩ ++ s := ⟨_, rfl⟩
      rw [← hs2] at hA1
      have hd : s2.data.toList = 32 :: Lib.itoa (nf i) := by rw [hs2, hs]; simp
      have hss : s2.size ≤ 22 := by rw [hs2, ByteArray.size_append]; have : (⟨#[32]⟩ : ByteArray).size = 1 := rfl; omega
      have hle : (Lib.byteCells (l0 ++ word.data.toList ++ numsT nf i)).length + s2.size ≤ 140737488355328 := by
        rw [Lib.byteCells_length, List.length_append, List.length_append, hwl]
        omega
      have HLEN := Lib.hid hle
      clear hle
      have HD := Lib.hid hd
      clear hs hs1 hs2 hgr hc0 hnb htb hlen hnl hwl hd hss
      go_wp2_with fail
      refine hIT.mono ?_
      rintro e w2 ⟨rfl, k, os, rfl⟩
      have hb2 : Below wr.heap.size wr (Sort.grow (wr.drewN k) os) := Lib.below_grow _ _ (Nat.le_refl _) k os
      obtain ⟨w2, hw2⟩ : ∃ w2, w2 = Sort.grow (wr.drewN k) os := ⟨_, rfl⟩
      rw [← hw2] at hb2 ⊢
      clear hw2
      have HB2 : Hid (Below b w w2) := HR.out.2.1.trans (hb2.mono (by omega))
      have HK2 : Hid (Lib.OthersKept 5 (some b) w w2) := HR.out.2.2.trans (others_below hb2)
      have HBl2 : Hid (Bld b (Lib.byteCells (l0 ++ word.data.toList ++ numsT nf i)) w2) := bld_below HR.out.1 hb2
      have hsz2 := hb2.size
      clear hb2 HR
      go_wp2_with fail
      refine (writeString_k b _ s2 w2 HBl2.out HLEN.out (by omega)).mono ?_
      rintro e w3 ⟨rfl, hB3, hb3, hk3⟩
      rw [strCells_eq, byteCells_app, HD.out] at hB3
      have HR3 : Hid (Bld b (Lib.byteCells (l0 ++ word.data.toList ++ numsT nf (i + 1))) w3 ∧ Below b w w3 ∧ Lib.OthersKept 5 (some b) w w3) :=
        ⟨by simp only [numsT, ← List.append_assoc]; simpa only [List.append_assoc] using hB3, HB2.out.trans hb3, HK2.out.trans hk3⟩
      clear hB3 hb3 hk3
      go_wp2_with fail
      exact ⟨⟨i + 1, by omega, by go_num, HR3⟩, by simp [intOf]; omega⟩
    · obtain rfl : i = n := by omega
      have hnl := numsT_len nf i HN.out
      have hwl : word.data.toList.length = word.size := Array.length_toList
      have hle : (Lib.byteCells (l0 ++ word.data.toList ++ numsT nf i)).length + (⟨#[10]⟩ : ByteArray).size ≤ 140737488355328 := by
        have : (⟨#[10]⟩ : ByteArray).size = 1 := rfl
        rw [Lib.byteCells_length, List.length_append, List.length_append, hwl]
        omega
      have HLEN := Lib.hid hle
      clear hle
      clear hnl hwl
      go_wp2_with fail
      refine (writeString_k b _ ⟨#[10]⟩ wr HR.out.1 HLEN.out (by omega)).mono ?_
      rintro e w3 ⟨rfl, hB3, hb3, hk3⟩
      rw [strCells_eq, byteCells_app] at hB3
      have HR3 : Hid (Bld b (Lib.byteCells (l0 ++ lineT word.data.toList nf i)) w3 ∧ Below b w w3 ∧ Lib.OthersKept 5 (some b) w w3) :=
        ⟨by unfold lineT; simpa only [List.append_assoc] using hB3, HR.out.2.1.trans hb3, HR.out.2.2.trans hk3⟩
      clear hB3 hb3 hk3 HR
      go_wp2_with fail
      go_end0
      exact ⟨rfl, HR3.out⟩
end Go.Proofs.YtbpifllkimkokaaDoor
