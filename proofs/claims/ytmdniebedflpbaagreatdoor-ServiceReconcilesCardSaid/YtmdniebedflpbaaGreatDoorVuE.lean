/-
  WALKS: the map of the commands.
-/
import Derived.Test.YtmdniebedflpbaaGreatDoorVuD
import Derived.MapKept
namespace Go.Proofs.YtmdniebedflpbaaGreatDoor
open Go.RowKit

theorem put_new (w : World) (o o' : Obj) : ({ w.alloc o with heap := (w.alloc o).heap.setIfInBounds w.heap.size o' } : World) = w.alloc o' := by
  have h : ∀ x, (w.alloc x).heap = w.heap.push x := fun _ => rfl
  have h2 : ∀ x, (w.alloc x) = { w with heap := w.heap.push x } := fun _ => rfl
  rw [h2 o', h2 o]
  simp only
  congr 1
  apply Array.ext_getElem?
  intro i
  by_cases e : i = w.heap.size
  · subst e
    rw [Array.getElem?_setIfInBounds_self_of_lt (by simp)]
    simp
  · rw [Array.getElem?_setIfInBounds_ne (Ne.symm e)]
    simp only [Array.getElem?_push, if_neg e]
theorem upd_new (w : World) (es : Array MapEntry) (ck : Nat) (k : ByteArray) (v : Value) (hf : Instr.findNow .string (.string k) es.toList 0 = some none) :
    (Instr.mapUpdate 150 (.map (some w.heap.size)) (.string k) v).run Tryz.prog (w.alloc (.map es ck)) = .ok () (w.alloc (.map (es.push { key := .string k, val := v, born := ck }) (ck + 1))) := by
  have hb : (w.alloc (.map es ck)).heap[w.heap.size]? = some (.map es ck) := new_heap w _
  have hk := Tryz.underlying9
  have hc : (Instr.checkKey false 10000 9 (.string k)).run Tryz.prog (w.alloc (.map es ck)) = .ok () (w.alloc (.map es ck)) := MapKept.run_checkKey (k := .string k) hk (by simp [MapKept.IsKey]) false 9999
  have hq := put_new w (.map es ck) (.map (es.push { key := .string k, val := v, born := ck }) (ck + 1))
  simp [Instr.mapUpdate, run_underlying Tryz.underlying150, MapKept.run_getObj_map hb, hc, MapKept.run_findKey hk hf, MapKept.run_setObj_map _ hb, Result.andThen]
  exact hq
def cmdE : Array MapEntry := #[⟨.string { data := #[104, 97, 110, 100] }, .func (.func 101) #[] #[], 0⟩,
  ⟨.string { data := #[98, 108, 111, 99, 107] }, .func (.func 102) #[] #[], 1⟩,
  ⟨.string { data := #[102, 105, 110, 100] }, .func (.func 103) #[] #[], 2⟩,
  ⟨.string { data := #[97, 103, 97, 105, 110] }, .func (.func 104) #[] #[], 3⟩,
  ⟨.string { data := #[100, 105, 103] }, .func (.func 105) #[] #[], 4⟩,
  ⟨.string { data := #[100, 101, 99, 105, 100, 101] }, .func (.func 106) #[] #[], 5⟩,
  ⟨.string { data := #[115, 105, 103, 110] }, .func (.func 107) #[] #[], 6⟩,
  ⟨.string { data := #[119, 105, 116, 104, 100, 114, 97, 119] }, .func (.func 108) #[] #[], 7⟩,
  ⟨.string { data := #[114, 101, 112, 111, 114, 116] }, .func (.func 109) #[] #[], 8⟩]

set_option maxRecDepth 100000 in
set_option maxHeartbeats 4000000 in
theorem commands_of (w : World) : Calls Tryz.prog 80 #[] w fun e w' => e = .returned (.map (some w.heap.size)) ∧ w' = w.alloc (.map cmdE 9) := by
  have u0 := upd_new w #[] 0 { data := #[104, 97, 110, 100] } (.func (.func 101) #[] #[]) (by rfl)
  have u1 := upd_new w #[{ key := .string { data := #[104, 97, 110, 100] }, val := .func (.func 101) #[] #[], born := 0 }] 1 { data := #[98, 108, 111, 99, 107] } (.func (.func 102) #[] #[]) (by rfl)
  have u2 := upd_new w #[{ key := .string { data := #[104, 97, 110, 100] }, val := .func (.func 101) #[] #[], born := 0 }, { key := .string { data := #[98, 108, 111, 99, 107] }, val := .func (.func 102) #[] #[], born := 1 }] 2 { data := #[102, 105, 110, 100] } (.func (.func 103) #[] #[]) (by rfl)
  have u3 := upd_new w #[{ key := .string { data := #[104, 97, 110, 100] }, val := .func (.func 101) #[] #[], born := 0 }, { key := .string { data := #[98, 108, 111, 99, 107] }, val := .func (.func 102) #[] #[], born := 1 }, { key := .string { data := #[102, 105, 110, 100] }, val := .func (.func 103) #[] #[], born := 2 }] 3 { data := #[97, 103, 97, 105, 110] } (.func (.func 104) #[] #[]) (by rfl)
  have u4 := upd_new w #[{ key := .string { data := #[104, 97, 110, 100] }, val := .func (.func 101) #[] #[], born := 0 }, { key := .string { data := #[98, 108, 111, 99, 107] }, val := .func (.func 102) #[] #[], born := 1 }, { key := .string { data := #[102, 105, 110, 100] }, val := .func (.func 103) #[] #[], born := 2 }, { key := .string { data := #[97, 103, 97, 105, 110] }, val := .func (.func 104) #[] #[], born := 3 }] 4 { data := #[100, 105, 103] } (.func (.func 105) #[] #[]) (by rfl)
  have u5 := upd_new w #[{ key := .string { data := #[104, 97, 110, 100] }, val := .func (.func 101) #[] #[], born := 0 }, { key := .string { data := #[98, 108, 111, 99, 107] }, val := .func (.func 102) #[] #[], born := 1 }, { key := .string { data := #[102, 105, 110, 100] }, val := .func (.func 103) #[] #[], born := 2 }, { key := .string { data := #[97, 103, 97, 105, 110] }, val := .func (.func 104) #[] #[], born := 3 }, { key := .string { data := #[100, 105, 103] }, val := .func (.func 105) #[] #[], born := 4 }] 5 { data := #[100, 101, 99, 105, 100, 101] } (.func (.func 106) #[] #[]) (by rfl)
  have u6 := upd_new w #[{ key := .string { data := #[104, 97, 110, 100] }, val := .func (.func 101) #[] #[], born := 0 }, { key := .string { data := #[98, 108, 111, 99, 107] }, val := .func (.func 102) #[] #[], born := 1 }, { key := .string { data := #[102, 105, 110, 100] }, val := .func (.func 103) #[] #[], born := 2 }, { key := .string { data := #[97, 103, 97, 105, 110] }, val := .func (.func 104) #[] #[], born := 3 }, { key := .string { data := #[100, 105, 103] }, val := .func (.func 105) #[] #[], born := 4 }, { key := .string { data := #[100, 101, 99, 105, 100, 101] }, val := .func (.func 106) #[] #[], born := 5 }] 6 { data := #[115, 105, 103, 110] } (.func (.func 107) #[] #[]) (by rfl)
  have u7 := upd_new w #[{ key := .string { data := #[104, 97, 110, 100] }, val := .func (.func 101) #[] #[], born := 0 }, { key := .string { data := #[98, 108, 111, 99, 107] }, val := .func (.func 102) #[] #[], born := 1 }, { key := .string { data := #[102, 105, 110, 100] }, val := .func (.func 103) #[] #[], born := 2 }, { key := .string { data := #[97, 103, 97, 105, 110] }, val := .func (.func 104) #[] #[], born := 3 }, { key := .string { data := #[100, 105, 103] }, val := .func (.func 105) #[] #[], born := 4 }, { key := .string { data := #[100, 101, 99, 105, 100, 101] }, val := .func (.func 106) #[] #[], born := 5 }, { key := .string { data := #[115, 105, 103, 110] }, val := .func (.func 107) #[] #[], born := 6 }] 7 { data := #[119, 105, 116, 104, 100, 114, 97, 119] } (.func (.func 108) #[] #[]) (by rfl)
  have u8 := upd_new w #[{ key := .string { data := #[104, 97, 110, 100] }, val := .func (.func 101) #[] #[], born := 0 }, { key := .string { data := #[98, 108, 111, 99, 107] }, val := .func (.func 102) #[] #[], born := 1 }, { key := .string { data := #[102, 105, 110, 100] }, val := .func (.func 103) #[] #[], born := 2 }, { key := .string { data := #[97, 103, 97, 105, 110] }, val := .func (.func 104) #[] #[], born := 3 }, { key := .string { data := #[100, 105, 103] }, val := .func (.func 105) #[] #[], born := 4 }, { key := .string { data := #[100, 101, 99, 105, 100, 101] }, val := .func (.func 106) #[] #[], born := 5 }, { key := .string { data := #[115, 105, 103, 110] }, val := .func (.func 107) #[] #[], born := 6 }, { key := .string { data := #[119, 105, 116, 104, 100, 114, 97, 119] }, val := .func (.func 108) #[] #[], born := 7 }] 8 { data := #[114, 101, 112, 111, 114, 116] } (.func (.func 109) #[] #[]) (by rfl)
  simp only [List.push_toArray, List.nil_append, List.cons_append, Nat.zero_add, Nat.reduceAdd] at u0 u1 u2 u3 u4 u5 u6 u7 u8
  have hm := @run_makeMap Tryz.prog
  go_enter Tryz.func80, Tryz.ntmps80
  go_wp2_with fail
  go_ret
  exact ⟨rfl, rfl⟩
theorem look_hand (w : World) (r : Nat) (h : w.heap[r]? = some (.map cmdE 9)) : (Instr.lookup 150 (.map (some r)) (.string { data := #[104, 97, 110, 100] }) true).run Tryz.prog w = .ok (.tuple #[.func (.func 101) #[] #[], .bool true]) w := by
  have hk := Tryz.underlying9
  have hf : Instr.findNow .string (.string { data := #[104, 97, 110, 100] }) cmdE.toList 0 = some (some (0, .func (.func 101) #[] #[])) := rfl
  have hc : (Instr.checkKey (cmdE.isEmpty) 10000 9 (.string { data := #[104, 97, 110, 100] })).run Tryz.prog w = .ok () w := MapKept.run_checkKey (k := .string { data := #[104, 97, 110, 100] }) hk (by simp [MapKept.IsKey]) _ 9999
  simp [Instr.lookup, run_underlying Tryz.underlying150, MapKept.run_getObj_map h, hc, MapKept.run_findKey hk hf, Result.andThen]
end Go.Proofs.YtmdniebedflpbaaGreatDoor
