/- Maps whose keys are keys: asked, and a key more. -/
import Derived.Test.YteenbebpdibbcaaB0
import Derived.DeepKeys4
import Derived.Maps.RangeRun
import Derived.ChangeMaps5
namespace Go.Proofs.Yteenbebpdibbcaa
open Go.RowKit
open Go.ChangeMaps (setBlock heap_setBlock_same heap_setBlock_other)
set_option maxRecDepth 100000

def keyV (a b : Int) : Value := .agg #[.int .i32 a, .int .i64 b]
theorem laidOutK : laidOutB Try.prog = true := by kernel_rfl
theorem Try.keyType45 : Try.prog.keyType 45 = true := by kernel_rfl
theorem Try.cells45 : Try.prog.cellsOf 45 = 2 := by kernel_rfl
theorem Try.cells2 : Try.prog.cellsOf 2 = 1 := by kernel_rfl
theorem Try.cells21 : Try.prog.cellsOf 21 = 1 := by kernel_rfl
theorem key_law : WideMaps.KeyLaw Try.prog 45 := deep_law_laid laidOutK (m := 2) (by decide) (of_decide_eq_true (by kernel_rfl)) (by kernel_rfl) (by kernel_rfl)
theorem key_fields : (Try.prog.underlying 45).bind (fun d => match d with | .struct fs => some (fs.toList.map fun f => (f.type, f.offset, f.name != "_")) | _ => none) = some [(21, 0, true), (2, 1, true)] := by kernel_rfl
theorem keyOf_two {P : Program} {k e f : TypeId} (hw : (P.underlying k).bind (fun d => match d with | .struct fs => some (fs.toList.map fun f => (f.type, f.offset, f.name != "_")) | _ => none) = some [(e, 0, true), (f, 1, true)])
    (hkt : P.keyType k = true) (hc : P.cellsOf k = 2) (he : P.underlying e = some (.int .i32)) (hce : P.cellsOf e = 1) (hf : P.underlying f = some (.int .i64)) (hcf : P.cellsOf f = 1) (hsz : ∃ m, P.types.size = m + 1) {a b : Int} (ha : (Lit.int .i32 a).wf = true) (hb : (Lit.int .i64 b).wf = true) : ∃ s, keyOf P k (keyV a b) = some s := by
  obtain ⟨m, hm⟩ := hsz
  unfold keyOf
  cases hu : P.underlying k with
  | none => rw [hu] at hw; simp at hw
  | some d =>
    rw [hu] at hw
    cases d with
    | struct fs =>
      obtain ⟨fs⟩ := fs
      simp only [Option.bind_some, Option.some.injEq] at hw
      have hl : fs.length = 2 := by have := congrArg List.length hw; simpa using this
      obtain ⟨f0, f1, rfl⟩ : ∃ x y, fs = [x, y] := by
        match fs, hl with
        | [x, y], _ => exact ⟨x, y, rfl⟩
      simp only [List.map_cons, List.map_nil, List.cons.injEq, Prod.mk.injEq, and_true] at hw
      obtain ⟨⟨t0, o0, n0⟩, t1, o1, n1⟩ := hw
      have hf' : (keyV a b).formed P k = true := by simp [keyV, Value.formed, hu, hc]
      simp only [hkt, hf', Bool.and_self, if_true, hm]
      unfold Program.keyLits
      simp [hu, keyV, Value.cells, hc, n0, n1, t0, t1, o0, o1, hce, hcf, Program.keyLits, he, hf, ha, hb]
    | _ => simp at hw
theorem Try.sizeS : ∃ m, Try.prog.types.size = m + 1 := ⟨Try.prog.types.size - 1, by kernel_rfl⟩
/-- A key that an api.Key can be. -/
def OkK (k : Ky) : Prop := (-2147483648 ≤ k.1 ∧ k.1 ≤ 2147483647) ∧ -9223372036854775808 ≤ k.2 ∧ k.2 ≤ 9223372036854775807
theorem wf32 {a : Int} (h : -2147483648 ≤ a ∧ a ≤ 2147483647) : (Lit.int .i32 a).wf = true := by
  have e1 : IntKind.i32.min = -2147483648 := by decide
  have e2 : IntKind.i32.max = 2147483647 := by decide
  simp only [Lit.wf, e1, e2, Bool.and_eq_true, decide_eq_true_eq]
  exact h
theorem wf64 {a : Int} (h : -9223372036854775808 ≤ a ∧ a ≤ 9223372036854775807) : (Lit.int .i64 a).wf = true := by
  have e1 : IntKind.i64.min = -9223372036854775808 := by decide
  have e2 : IntKind.i64.max = 9223372036854775807 := by decide
  simp only [Lit.wf, e1, e2, Bool.and_eq_true, decide_eq_true_eq]
  exact h
theorem keyOf_key {k : Ky} (h : OkK k) : ∃ s, keyOf Try.prog 45 (keyV k.1 k.2) = some s :=
  keyOf_two key_fields Try.keyType45 Try.cells45 Try.underlying21 Try.cells21 Try.underlying2 Try.cells2 Try.sizeS (wf32 h.1) (wf64 h.2)
theorem keyV_inj {a b : Ky} (h : keyV a.1 a.2 = keyV b.1 b.2) : a = b := by
  simp only [keyV, Value.agg.injEq, Array.mk.injEq, List.cons.injEq, Value.int.injEq, true_and, and_true] at h
  exact Prod.ext h.1 h.2

/-- A map in memory, in the order in which its keys came. -/
def MapAt (w : World) (mb : Nat) (l : List (Ky × Value)) : Prop := ∃ es clock, w.heap[mb]? = some (.map es clock) ∧ es.toList.map (fun e => (e.key, e.val)) = l.map fun q => (keyV q.1.1 q.1.2, q.2)
theorem MapAt.lt {w : World} {mb : Nat} {l : List (Ky × Value)} (h : MapAt w mb l) : mb < w.heap.size := by
  obtain ⟨es, c, h, _⟩ := h
  exact (Array.getElem?_eq_some_iff.1 h).1
theorem MapAt.keep {w w' : World} {mb : Nat} {l : List (Ky × Value)} (h : MapAt w mb l) (hk : w'.heap[mb]? = w.heap[mb]?) : MapAt w' mb l := by
  obtain ⟨es, c, h1, h2⟩ := h
  exact ⟨es, c, hk.trans h1, h2⟩
theorem MapAt.below {w w' : World} {mb : Nat} {l : List (Ky × Value)} (h : MapAt w mb l) (hb : Below w.heap.size w w') : MapAt w' mb l := h.keep (hb.block _ h.lt)
/-- No row of cells is the map. -/
theorem MapAt.apart {w : World} {mb g : Nat} {l : List (Ky × Value)} (h : MapAt w mb l) {cur : Array Value} {T : TypeId} {m : Nat × Nat} (hg : w.heap[g]? = some (.cells cur T m)) : g ≠ mb := fun e => by
  obtain ⟨es, c, h1, _⟩ := h
  rw [e, h1] at hg
  cases hg
theorem MapAt.ents {w : World} {mb : Nat} {l : List (Ky × Value)} (h : MapAt w mb l) : ∃ es clock, w.heap[mb]? = some (.map es clock) ∧ es.toList.map (fun e => (e.key, e.val)) = (l.map fun q => (keyV q.1.1 q.1.2, q.2)) ∧ (∀ e ∈ es.toList, ∃ q ∈ l, e.key = keyV q.1.1 q.1.2 ∧ e.val = q.2) ∧ ∀ q ∈ l, ∃ e ∈ es.toList, e.key = keyV q.1.1 q.1.2 := by
  obtain ⟨es, clock, hm, hes⟩ := h
  refine ⟨es, clock, hm, hes, fun e he => ?_, fun q hq => ?_⟩
  · have : (e.key, e.val) ∈ es.toList.map (fun e => (e.key, e.val)) := List.mem_map.2 ⟨e, he, rfl⟩
    rw [hes] at this
    obtain ⟨q, hq, e1⟩ := List.mem_map.1 this
    simp only [Prod.mk.injEq] at e1
    exact ⟨q, hq, e1.1.symm, e1.2.symm⟩
  · have : (keyV q.1.1 q.1.2, q.2) ∈ es.toList.map (fun e => (e.key, e.val)) := by rw [hes]; exact List.mem_map.2 ⟨q, hq, rfl⟩
    obtain ⟨e, he, e1⟩ := List.mem_map.1 this
    simp only [Prod.mk.injEq] at e1
    exact ⟨e, he, e1.1⟩
section
variable {w : World} {mb : Nat} {l : List (Ky × Value)} {T E : TypeId}
/-- A key that isn't there. -/
theorem look_no (hT : Try.prog.underlying T = some (.map 45 E)) {z : Value} (hz : ∀ w, (zeroValue E).run Try.prog w = .ok z w) (h : MapAt w mb l) (ho : ∀ q ∈ l, OkK q.1) {k : Ky} (hk : OkK k) (hno : ∀ q ∈ l, q.1 ≠ k) :
    (Instr.lookup T (.map (some mb)) (keyV k.1 k.2) true).run Try.prog w = .ok (.tuple #[z, .bool false]) w := by
  obtain ⟨es, clock, hm, hes, hent, hrev⟩ := h.ents
  obtain ⟨s, hs⟩ := keyOf_key hk
  have hall : ∀ e ∈ es.toList, ∃ l, keyOf Try.prog 45 e.key = some l := fun e he => by
    obtain ⟨q, hq, e1, _⟩ := hent e he
    rw [e1]
    exact keyOf_key (ho q hq)
  rcases key_law.find w hs es.toList hall with ⟨h1, _⟩ | ⟨j, e0, _, h2, h3⟩
  · simp [Instr.lookup, run_underlying hT, MapKept.run_getObj_map hm, key_law.check w _ hs, h1, Result.andThen, hz]
  · obtain ⟨q, hq, e1, _⟩ := hent e0 (List.mem_of_getElem? h2)
    exact absurd (keyV_inj (e1.symm.trans h3)) (hno q hq)
/-- A key that is there. -/
theorem look_has (hT : Try.prog.underlying T = some (.map 45 E)) (h : MapAt w mb l) (ho : ∀ q ∈ l, OkK q.1) (hn : (l.map (·.1)).Nodup) {k : Ky} {u : Value} (hin : (k, u) ∈ l) :
    (Instr.lookup T (.map (some mb)) (keyV k.1 k.2) true).run Try.prog w = .ok (.tuple #[u, .bool true]) w := by
  obtain ⟨es, clock, hm, hes, hent, hrev⟩ := h.ents
  obtain ⟨s, hs⟩ := keyOf_key (ho _ hin)
  have hall : ∀ e ∈ es.toList, ∃ l, keyOf Try.prog 45 e.key = some l := fun e he => by
    obtain ⟨q, hq, e1, _⟩ := hent e he
    rw [e1]
    exact keyOf_key (ho q hq)
  rcases key_law.find w hs es.toList hall with ⟨_, h2⟩ | ⟨j, e0, h1, h2, h3⟩
  · obtain ⟨e, he, e1⟩ := hrev _ hin
    exact absurd e1 (h2 e he)
  · obtain ⟨q, hq, e1, e2⟩ := hent e0 (List.mem_of_getElem? h2)
    have e3 : q.1 = k := keyV_inj (e1.symm.trans h3)
    have e4 : q = (k, u) := by
      obtain ⟨i, hi, rfl⟩ := List.getElem_of_mem hq
      obtain ⟨i', hi', e5⟩ := List.getElem_of_mem hin
      have hpw := List.pairwise_iff_getElem.1 hn
      rcases Nat.lt_trichotomy i i' with c | c | c
      · have := hpw i i' (by simpa using hi) (by simpa using hi') c
        simp only [List.getElem_map, e5] at this
        exact absurd e3 this
      · subst c; exact e5
      · have := hpw i' i (by simpa using hi') (by simpa using hi) c
        simp only [List.getElem_map, e5] at this
        exact absurd e3.symm this
    rw [e4] at e2
    simp [Instr.lookup, run_underlying hT, MapKept.run_getObj_map hm, key_law.check w _ hs, h1, Result.andThen, e2]
/-- A key more. -/
theorem put_new (hT : Try.prog.underlying T = some (.map 45 E)) (h : MapAt w mb l) (ho : ∀ q ∈ l, OkK q.1) {k : Ky} (hk : OkK k) (hno : ∀ q ∈ l, q.1 ≠ k) (u : Value) :
    ∃ y, (Instr.mapUpdate T (.map (some mb)) (keyV k.1 k.2) u).run Try.prog w = .ok () y ∧ MapAt y mb (l ++ [(k, u)]) ∧ (∀ j, j ≠ mb → y.heap[j]? = w.heap[j]?) ∧ y.heap.size = w.heap.size ∧ y.os = w.os ∧ y.tape = w.tape ∧ y.output = w.output := by
  obtain ⟨es, clock, hm, hes, hent, hrev⟩ := h.ents
  obtain ⟨s, hs⟩ := keyOf_key hk
  have hall : ∀ e ∈ es.toList, ∃ l, keyOf Try.prog 45 e.key = some l := fun e he => by
    obtain ⟨q, hq, e1, _⟩ := hent e he
    rw [e1]
    exact keyOf_key (ho q hq)
  rcases key_law.find w hs es.toList hall with ⟨h1, _⟩ | ⟨j, e0, _, h2, h3⟩
  · refine ⟨setBlock w mb (.map (es.push ⟨keyV k.1 k.2, u, clock⟩) (clock + 1)), ?_, ⟨_, _, heap_setBlock_same hm _, ?_⟩, fun j hj => heap_setBlock_other hm _ hj, by simp [setBlock], rfl, rfl, rfl⟩
    · simp [Instr.mapUpdate, run_underlying hT, MapKept.run_getObj_map hm, key_law.check w false hs, h1, MapKept.run_setObj_map _ hm, Result.andThen, setBlock]
    · rw [Array.toList_push, List.map_append, hes, List.map_append]
      rfl
  · obtain ⟨q, hq, e1, _⟩ := hent e0 (List.mem_of_getElem? h2)
    exact absurd (keyV_inj (e1.symm.trans h3)) (hno q hq)
end
end Go.Proofs.Yteenbebpdibbcaa
