/- Several texts as one. -/
import Derived.Test.YtldapckooohigaaDoorJS
import Derived.DeepKeys4
import Derived.Maps.RangeRun
import Derived.ChangeMaps5
import Derived.Shelf.SlSortCmp.NoneTotal
import Derived.Test.YtldapckooohigaaDoorChecked

/- Maps whose keys are keys: asked, and a key more. -/
namespace Go.Proofs.YtldapckooohigaaDoor
open Go.RowKit
open Go.ChangeMaps (setBlock heap_setBlock_same heap_setBlock_other)
set_option maxRecDepth 100000

def keyV (a b : Int) : Value := .agg #[.int .i32 a, .int .i64 b]
theorem laidOutK : laidOutB Tryd.prog = true := by kernel_rfl
theorem Tryd.keyType38 : Tryd.prog.keyType 38 = true := by kernel_rfl
theorem Tryd.cells38 : Tryd.prog.cellsOf 38 = 2 := by kernel_rfl
theorem Tryd.cells2 : Tryd.prog.cellsOf 2 = 1 := by kernel_rfl
theorem Tryd.cells21 : Tryd.prog.cellsOf 21 = 1 := by kernel_rfl
theorem key_law : WideMaps.KeyLaw Tryd.prog 38 := deep_law_laid laidOutK (m := 2) (by decide) (of_decide_eq_true (by kernel_rfl)) (by kernel_rfl) (by kernel_rfl)
theorem key_fields : (Tryd.prog.underlying 38).bind (fun d => match d with | .struct fs => some (fs.toList.map fun f => (f.type, f.offset, f.name != "_")) | _ => none) = some [(21, 0, true), (2, 1, true)] := by kernel_rfl
theorem keyOf_two {P : Program} {k e f : TypeId} (hw : (P.underlying k).bind (fun d => match d with | .struct fs => some (fs.toList.map fun f => (f.type, f.offset, f.name != "_")) | _ => none) = some [(e, 0, true), (f, 1, true)])
    (hkt : P.keyType k = true) (hc : P.cellsOf k = 2) (he : P.underlying e = some (.int .i32)) (hce : P.cellsOf e = 1) (hf : P.underlying f = some (.int .i64)) (hcf : P.cellsOf f = 1) (hsz : ∃ m, P.types.size = m + 1) {a b : Int} (ha : (Lit.int .i32 a).wf = true) (hb : (Lit.int .i64 b).wf = true) : ∃ s, keyOf P k (keyV a b) = some s := by
  obtain ⟨m, hm⟩ := hsz
  unfold keyOf
  cases hu : P.underlying k with
  | none => rw [hu] at hw; simp at hw
  | some d =>
    rw [hu] at hw
    cases d with
    | struct fs =>
      obtain ⟨fs⟩ := fs
      simp only [Option.bind_some, Option.some.injEq] at hw
      have hl : fs.length = 2 := by have := congrArg List.length hw; simpa using this
      obtain ⟨f0, f1, rfl⟩ : ∃ x y, fs = [x, y] := by
        match fs, hl with
        | [x, y], _ => exact ⟨x, y, rfl⟩
      simp only [List.map_cons, List.map_nil, List.cons.injEq, Prod.mk.injEq, and_true] at hw
      obtain ⟨⟨t0, o0, n0⟩, t1, o1, n1⟩ := hw
      have hf' : (keyV a b).formed P k = true := by simp [keyV, Value.formed, hu, hc]
      simp only [hkt, hf', Bool.and_self, if_true, hm]
      unfold Program.keyLits
      simp [hu, keyV, Value.cells, hc, n0, n1, t0, t1, o0, o1, hce, hcf, Program.keyLits, he, hf, ha, hb]
    | _ => simp at hw
theorem Tryd.sizeS : ∃ m, Tryd.prog.types.size = m + 1 := ⟨Tryd.prog.types.size - 1, by kernel_rfl⟩
/-- A key that an api.Key can be. -/
def OkK (k : Ky) : Prop := (-2147483648 ≤ k.1 ∧ k.1 ≤ 2147483647) ∧ -9223372036854775808 ≤ k.2 ∧ k.2 ≤ 9223372036854775807
theorem wf32 {a : Int} (h : -2147483648 ≤ a ∧ a ≤ 2147483647) : (Lit.int .i32 a).wf = true := by
  have e1 : IntKind.i32.min = -2147483648 := by decide
  have e2 : IntKind.i32.max = 2147483647 := by decide
  simp only [Lit.wf, e1, e2, Bool.and_eq_true, decide_eq_true_eq]
  exact h
theorem wf64 {a : Int} (h : -9223372036854775808 ≤ a ∧ a ≤ 9223372036854775807) : (Lit.int .i64 a).wf = true := by
  have e1 : IntKind.i64.min = -9223372036854775808 := by decide
  have e2 : IntKind.i64.max = 9223372036854775807 := by decide
  simp only [Lit.wf, e1, e2, Bool.and_eq_true, decide_eq_true_eq]
  exact h
theorem keyOf_key {k : Ky} (h : OkK k) : ∃ s, keyOf Tryd.prog 38 (keyV k.1 k.2) = some s :=
  keyOf_two key_fields Tryd.keyType38 Tryd.cells38 Tryd.underlying21 Tryd.cells21 Tryd.underlying2 Tryd.cells2 Tryd.sizeS (wf32 h.1) (wf64 h.2)
theorem keyV_inj {a b : Ky} (h : keyV a.1 a.2 = keyV b.1 b.2) : a = b := by
  simp only [keyV, Value.agg.injEq, Array.mk.injEq, List.cons.injEq, Value.int.injEq, true_and, and_true] at h
  exact Prod.ext h.1 h.2

/-- Stamps: each below the clock, no two alike. -/
def Stp (es : Array MapEntry) (clock : Nat) : Prop := (∀ e ∈ es.toList, e.born < clock) ∧ (es.toList.map (·.born)).Nodup
theorem stp_nil : Stp #[] 0 := ⟨by simp, by simp⟩
theorem stp_push {es : Array MapEntry} {clock : Nat} (h : Stp es clock) (k v : Value) : Stp (es.push ⟨k, v, clock⟩) (clock + 1) := by
  refine ⟨fun e he => ?_, ?_⟩
  · rw [Array.toList_push, List.mem_append, List.mem_singleton] at he
    rcases he with he | rfl
    · have := h.1 e he
      omega
    · exact Nat.lt_succ_self _
  · rw [Array.toList_push, List.map_append, List.nodup_append]
    refine ⟨h.2, by simp, fun a ha b hb => ?_⟩
    obtain ⟨e, he, rfl⟩ := List.mem_map.1 ha
    have := h.1 e he
    simp only [List.map_cons, List.map_nil, List.mem_singleton] at hb
    omega
theorem stp_of {es es' : Array MapEntry} {clock : Nat} (h : Stp es clock) (hb : es'.toList.map (·.born) = es.toList.map (·.born)) : Stp es' clock := by
  refine ⟨fun e he => ?_, hb ▸ h.2⟩
  have : e.born ∈ es.toList.map (·.born) := hb ▸ List.mem_map.2 ⟨e, he, rfl⟩
  obtain ⟨e', he', e1⟩ := List.mem_map.1 this
  exact e1 ▸ h.1 e' he'
/-- A map in memory, in the order in which its keys came. -/
def MapAt (w : World) (mb : Nat) (l : List (Ky × Value)) : Prop := ∃ es clock, w.heap[mb]? = some (.map es clock) ∧ es.toList.map (fun e => (e.key, e.val)) = (l.map fun q => (keyV q.1.1 q.1.2, q.2)) ∧ Stp es clock
theorem MapAt.lt {w : World} {mb : Nat} {l : List (Ky × Value)} (h : MapAt w mb l) : mb < w.heap.size := by
  obtain ⟨es, c, h, _⟩ := h
  exact (Array.getElem?_eq_some_iff.1 h).1
theorem MapAt.keep {w w' : World} {mb : Nat} {l : List (Ky × Value)} (h : MapAt w mb l) (hk : w'.heap[mb]? = w.heap[mb]?) : MapAt w' mb l := by
  obtain ⟨es, c, h1, h2⟩ := h
  exact ⟨es, c, hk.trans h1, h2⟩
theorem MapAt.below {w w' : World} {mb : Nat} {l : List (Ky × Value)} (h : MapAt w mb l) (hb : Below w.heap.size w w') : MapAt w' mb l := h.keep (hb.block _ h.lt)
/-- No row of cells is the map. -/
theorem MapAt.apart {w : World} {mb g : Nat} {l : List (Ky × Value)} (h : MapAt w mb l) {cur : Array Value} {T : TypeId} {m : Nat × Nat} (hg : w.heap[g]? = some (.cells cur T m)) : g ≠ mb := fun e => by
  obtain ⟨es, c, h1, _⟩ := h
  rw [e, h1] at hg
  cases hg
theorem MapAt.entsS {w : World} {mb : Nat} {l : List (Ky × Value)} (h : MapAt w mb l) : ∃ es clock, w.heap[mb]? = some (.map es clock) ∧ es.toList.map (fun e => (e.key, e.val)) = (l.map fun q => (keyV q.1.1 q.1.2, q.2)) ∧ (∀ e ∈ es.toList, ∃ q ∈ l, e.key = keyV q.1.1 q.1.2 ∧ e.val = q.2) ∧ (∀ q ∈ l, ∃ e ∈ es.toList, e.key = keyV q.1.1 q.1.2) ∧ Stp es clock := by
  obtain ⟨es, clock, hm, hes, hst⟩ := h
  refine ⟨es, clock, hm, hes, fun e he => ?_, fun q hq => ?_, hst⟩
  · have : (e.key, e.val) ∈ es.toList.map (fun e => (e.key, e.val)) := List.mem_map.2 ⟨e, he, rfl⟩
    rw [hes] at this
    obtain ⟨q, hq, e1⟩ := List.mem_map.1 this
    simp only [Prod.mk.injEq] at e1
    exact ⟨q, hq, e1.1.symm, e1.2.symm⟩
  · have : (keyV q.1.1 q.1.2, q.2) ∈ es.toList.map (fun e => (e.key, e.val)) := by rw [hes]; exact List.mem_map.2 ⟨q, hq, rfl⟩
    obtain ⟨e, he, e1⟩ := List.mem_map.1 this
    simp only [Prod.mk.injEq] at e1
    exact ⟨e, he, e1.1⟩
theorem MapAt.ents {w : World} {mb : Nat} {l : List (Ky × Value)} (h : MapAt w mb l) : ∃ es clock, w.heap[mb]? = some (.map es clock) ∧ es.toList.map (fun e => (e.key, e.val)) = (l.map fun q => (keyV q.1.1 q.1.2, q.2)) ∧ (∀ e ∈ es.toList, ∃ q ∈ l, e.key = keyV q.1.1 q.1.2 ∧ e.val = q.2) ∧ ∀ q ∈ l, ∃ e ∈ es.toList, e.key = keyV q.1.1 q.1.2 := by
  obtain ⟨es, clock, h1, h2, h3, h4, _⟩ := h.entsS
  exact ⟨es, clock, h1, h2, h3, h4⟩
section
variable {w : World} {mb : Nat} {l : List (Ky × Value)} {T E : TypeId}
/-- A key that isn't there. -/
theorem look_no (hT : Tryd.prog.underlying T = some (.map 38 E)) {z : Value} (hz : ∀ w, (zeroValue E).run Tryd.prog w = .ok z w) (h : MapAt w mb l) (ho : ∀ q ∈ l, OkK q.1) {k : Ky} (hk : OkK k) (hno : ∀ q ∈ l, q.1 ≠ k) :
    (Instr.lookup T (.map (some mb)) (keyV k.1 k.2) true).run Tryd.prog w = .ok (.tuple #[z, .bool false]) w := by
  obtain ⟨es, clock, hm, hes, hent, hrev⟩ := h.ents
  obtain ⟨s, hs⟩ := keyOf_key hk
  have hall : ∀ e ∈ es.toList, ∃ l, keyOf Tryd.prog 38 e.key = some l := fun e he => by
    obtain ⟨q, hq, e1, _⟩ := hent e he
    rw [e1]
    exact keyOf_key (ho q hq)
  rcases key_law.find w hs es.toList hall with ⟨h1, _⟩ | ⟨j, e0, _, h2, h3⟩
  · simp [Instr.lookup, run_underlying hT, MapKept.run_getObj_map hm, key_law.check w _ hs, h1, Result.andThen, hz]
  · obtain ⟨q, hq, e1, _⟩ := hent e0 (List.mem_of_getElem? h2)
    exact absurd (keyV_inj (e1.symm.trans h3)) (hno q hq)
/-- A key that is there. -/
theorem look_has (hT : Tryd.prog.underlying T = some (.map 38 E)) (h : MapAt w mb l) (ho : ∀ q ∈ l, OkK q.1) (hn : (l.map (·.1)).Nodup) {k : Ky} {u : Value} (hin : (k, u) ∈ l) :
    (Instr.lookup T (.map (some mb)) (keyV k.1 k.2) true).run Tryd.prog w = .ok (.tuple #[u, .bool true]) w := by
  obtain ⟨es, clock, hm, hes, hent, hrev⟩ := h.ents
  obtain ⟨s, hs⟩ := keyOf_key (ho _ hin)
  have hall : ∀ e ∈ es.toList, ∃ l, keyOf Tryd.prog 38 e.key = some l := fun e he => by
    obtain ⟨q, hq, e1, _⟩ := hent e he
    rw [e1]
    exact keyOf_key (ho q hq)
  rcases key_law.find w hs es.toList hall with ⟨_, h2⟩ | ⟨j, e0, h1, h2, h3⟩
  · obtain ⟨e, he, e1⟩ := hrev _ hin
    exact absurd e1 (h2 e he)
  · obtain ⟨q, hq, e1, e2⟩ := hent e0 (List.mem_of_getElem? h2)
    have e3 : q.1 = k := keyV_inj (e1.symm.trans h3)
    have e4 : q = (k, u) := by
      obtain ⟨i, hi, rfl⟩ := List.getElem_of_mem hq
      obtain ⟨i', hi', e5⟩ := List.getElem_of_mem hin
      have hpw := List.pairwise_iff_getElem.1 hn
      rcases Nat.lt_trichotomy i i' with c | c | c
      · have := hpw i i' (by simpa using hi) (by simpa using hi') c
        simp only [List.getElem_map, e5] at this
        exact absurd e3 this
      · subst c; exact e5
      · have := hpw i' i (by simpa using hi') (by simpa using hi) c
        simp only [List.getElem_map, e5] at this
        exact absurd e3.symm this
    rw [e4] at e2
    simp [Instr.lookup, run_underlying hT, MapKept.run_getObj_map hm, key_law.check w _ hs, h1, Result.andThen, e2]
/-- A key more. -/
theorem put_new (hT : Tryd.prog.underlying T = some (.map 38 E)) (h : MapAt w mb l) (ho : ∀ q ∈ l, OkK q.1) {k : Ky} (hk : OkK k) (hno : ∀ q ∈ l, q.1 ≠ k) (u : Value) :
    ∃ y, (Instr.mapUpdate T (.map (some mb)) (keyV k.1 k.2) u).run Tryd.prog w = .ok () y ∧ MapAt y mb (l ++ [(k, u)]) ∧ (∀ j, j ≠ mb → y.heap[j]? = w.heap[j]?) ∧ y.heap.size = w.heap.size ∧ y.os = w.os ∧ y.tape = w.tape ∧ y.output = w.output := by
  obtain ⟨es, clock, hm, hes, hent, hrev, hst⟩ := h.entsS
  obtain ⟨s, hs⟩ := keyOf_key hk
  have hall : ∀ e ∈ es.toList, ∃ l, keyOf Tryd.prog 38 e.key = some l := fun e he => by
    obtain ⟨q, hq, e1, _⟩ := hent e he
    rw [e1]
    exact keyOf_key (ho q hq)
  rcases key_law.find w hs es.toList hall with ⟨h1, _⟩ | ⟨j, e0, _, h2, h3⟩
  · refine ⟨setBlock w mb (.map (es.push ⟨keyV k.1 k.2, u, clock⟩) (clock + 1)), ?_, ⟨_, _, heap_setBlock_same hm _, ?_, stp_push hst _ _⟩, fun j hj => heap_setBlock_other hm _ hj, by simp [setBlock], rfl, rfl, rfl⟩
    · simp [Instr.mapUpdate, run_underlying hT, MapKept.run_getObj_map hm, key_law.check w false hs, h1, MapKept.run_setObj_map _ hm, Result.andThen, setBlock]
    · rw [Array.toList_push, List.map_append, hes, List.map_append]
      rfl
  · obtain ⟨q, hq, e1, _⟩ := hent e0 (List.mem_of_getElem? h2)
    exact absurd (keyV_inj (e1.symm.trans h3)) (hno q hq)
end
end Go.Proofs.YtldapckooohigaaDoor

/- The library's contracts at this seat, in plain words. -/
namespace Go.Proofs
open Go.Shelf
def Tryd.sortP_ren : Go.Shelf.Ren := ⟨fun | 6 => 60 | 15 => 56 | 14 => 83 | 28 => 79 | 29 => 80 | 20 => 93 | 21 => 94 | 22 => 95 | 23 => 96 | 24 => 97 | 25 => 98 | 26 => 99 | 27 => 100 | 46 => 103 | 47 => 89 | 48 => 90 | 49 => 104 | 50 => 105 | 57 => 106 | n => n, fun | 22 => 29 | 24 => 45 | 25 => 108 | 3 => 3 | 39 => 64 | 0 => 0 | 53 => 129 | 55 => 62 | 4 => 4 | 46 => 123 | 45 => 122 | 50 => 106 | 5 => 5 | 9 => 9 | 66 => 139 | 70 => 143 | 76 => 151 | 77 => 152 | n => n, fun | n => n⟩
theorem Tryd.sortP : Go.Proofs.SlLaysF0.n6 Tryd.prog Tryd.sortP_ren := {
  mixed := by kernel_rfl
  f6 := ⟨Tryd.f60.name, by decide, Tryd.func60.trans (congrArg some (by kernel_rfl))⟩
  f14 := ⟨Tryd.f83.name, by decide, Tryd.func83.trans (congrArg some (by kernel_rfl))⟩
  f15 := Tryd.func56.trans (congrArg some (by kernel_rfl))
  f20 := ⟨Tryd.f93.name, by decide, Tryd.func93.trans (congrArg some (by kernel_rfl))⟩
  f21 := ⟨Tryd.f94.name, by decide, Tryd.func94.trans (congrArg some (by kernel_rfl))⟩
  f22 := ⟨Tryd.f95.name, by decide, Tryd.func95.trans (congrArg some (by kernel_rfl))⟩
  f23 := ⟨Tryd.f96.name, by decide, Tryd.func96.trans (congrArg some (by kernel_rfl))⟩
  f24 := ⟨Tryd.f97.name, by decide, Tryd.func97.trans (congrArg some (by kernel_rfl))⟩
  f25 := ⟨Tryd.f98.name, by decide, Tryd.func98.trans (congrArg some (by kernel_rfl))⟩
  f26 := ⟨Tryd.f99.name, by decide, Tryd.func99.trans (congrArg some (by kernel_rfl))⟩
  f27 := ⟨Tryd.f100.name, by decide, Tryd.func100.trans (congrArg some (by kernel_rfl))⟩
  f28 := Tryd.func79.trans (congrArg some (by kernel_rfl))
  f29 := Tryd.func80.trans (congrArg some (by kernel_rfl))
  f46 := ⟨Tryd.f103.name, by decide, Tryd.func103.trans (congrArg some (by kernel_rfl))⟩
  f47 := Tryd.func89.trans (congrArg some (by kernel_rfl))
  f48 := Tryd.func90.trans (congrArg some (by kernel_rfl))
  f49 := ⟨Tryd.f104.name, by decide, Tryd.func104.trans (congrArg some (by kernel_rfl))⟩
  f50 := ⟨Tryd.f105.name, by decide, Tryd.func105.trans (congrArg some (by kernel_rfl))⟩
  f57 := ⟨Tryd.f106.name, by decide, Tryd.func106.trans (congrArg some (by kernel_rfl))⟩
  t0 := Tryd.underlying0
  a0 := Tryd.isAgg0
  z0 := Tryd.sizeOf0
  v0 := Tryd.zeroValue0
  t3 := Tryd.underlying3
  a3 := Tryd.isAgg3
  z3 := Tryd.sizeOf3
  v3 := Tryd.zeroValue3
  t4 := Tryd.underlying4
  a4 := Tryd.isAgg4
  z4 := Tryd.sizeOf4
  v4 := Tryd.zeroValue4
  t5 := Tryd.underlying5
  a5 := Tryd.isAgg5
  z5 := Tryd.sizeOf5
  v5 := Tryd.zeroValue5
  t9 := Tryd.underlying9
  a9 := Tryd.isAgg9
  z9 := Tryd.sizeOf9
  v9 := Tryd.zeroValue9
  t22 := Tryd.underlying29
  a22 := Tryd.isAgg29
  z22 := Tryd.sizeOf29
  v22 := Tryd.zeroValue29
  t25 := Tryd.underlying108
  a25 := Tryd.isAgg108
  z25 := Tryd.sizeOf108
  v25 := Tryd.zeroValue108
  t39 := Tryd.underlying64
  a39 := Tryd.isAgg64
  z39 := Tryd.sizeOf64
  v39 := Tryd.zeroValue64
  t45 := Tryd.underlying122
  a45 := Tryd.isAgg122
  z45 := Tryd.sizeOf122
  v45 := Tryd.zeroValue122
  t46 := Tryd.underlying123
  a46 := Tryd.isAgg123
  z46 := Tryd.sizeOf123
  v46 := Tryd.zeroValue123
  t50 := Tryd.underlying106
  a50 := Tryd.isAgg106
  z50 := Tryd.sizeOf106
  v50 := Tryd.zeroValue106
  t53 := Tryd.underlying129
  a53 := Tryd.isAgg129
  z53 := Tryd.sizeOf129
  v53 := Tryd.zeroValue129
  t55 := Tryd.underlying62
  a55 := Tryd.isAgg62
  z55 := Tryd.sizeOf62
  v55 := Tryd.zeroValue62
  t66 := Tryd.underlying139
  a66 := Tryd.isAgg139
  z66 := Tryd.sizeOf139
  v66 := Tryd.zeroValue139
  t70 := Tryd.underlying143
  a70 := Tryd.isAgg143
  z70 := Tryd.sizeOf143
  v70 := Tryd.zeroValue143
  t76 := Tryd.underlying151
  a76 := Tryd.isAgg151
  z76 := Tryd.sizeOf151
  v76 := Tryd.zeroValue151
  t77 := Tryd.underlying152
  a77 := Tryd.isAgg152
  z77 := Tryd.sizeOf152
  v77 := Tryd.zeroValue152 }
def Tryd.sortD_ren : Go.Shelf.Ren := ⟨fun | 6 => 45 | 15 => 56 | 14 => 55 | 28 => 79 | 29 => 80 | 20 => 71 | 21 => 72 | 22 => 73 | 23 => 74 | 24 => 75 | 25 => 76 | 26 => 77 | 27 => 78 | 46 => 88 | 47 => 89 | 48 => 90 | 49 => 91 | 50 => 92 | 57 => 102 | n => n, fun | 22 => 30 | 24 => 40 | 25 => 93 | 3 => 3 | 39 => 64 | 0 => 0 | 53 => 129 | 55 => 62 | 4 => 4 | 46 => 123 | 45 => 122 | 50 => 106 | 5 => 5 | 9 => 9 | 66 => 139 | 70 => 143 | 76 => 151 | 77 => 152 | n => n, fun | n => n⟩
theorem Tryd.sortD : Go.Proofs.SlLaysF0.n6 Tryd.prog Tryd.sortD_ren := {
  mixed := by kernel_rfl
  f6 := ⟨Tryd.f45.name, by decide, Tryd.func45.trans (congrArg some (by kernel_rfl))⟩
  f14 := ⟨Tryd.f55.name, by decide, Tryd.func55.trans (congrArg some (by kernel_rfl))⟩
  f15 := Tryd.func56.trans (congrArg some (by kernel_rfl))
  f20 := ⟨Tryd.f71.name, by decide, Tryd.func71.trans (congrArg some (by kernel_rfl))⟩
  f21 := ⟨Tryd.f72.name, by decide, Tryd.func72.trans (congrArg some (by kernel_rfl))⟩
  f22 := ⟨Tryd.f73.name, by decide, Tryd.func73.trans (congrArg some (by kernel_rfl))⟩
  f23 := ⟨Tryd.f74.name, by decide, Tryd.func74.trans (congrArg some (by kernel_rfl))⟩
  f24 := ⟨Tryd.f75.name, by decide, Tryd.func75.trans (congrArg some (by kernel_rfl))⟩
  f25 := ⟨Tryd.f76.name, by decide, Tryd.func76.trans (congrArg some (by kernel_rfl))⟩
  f26 := ⟨Tryd.f77.name, by decide, Tryd.func77.trans (congrArg some (by kernel_rfl))⟩
  f27 := ⟨Tryd.f78.name, by decide, Tryd.func78.trans (congrArg some (by kernel_rfl))⟩
  f28 := Tryd.func79.trans (congrArg some (by kernel_rfl))
  f29 := Tryd.func80.trans (congrArg some (by kernel_rfl))
  f46 := ⟨Tryd.f88.name, by decide, Tryd.func88.trans (congrArg some (by kernel_rfl))⟩
  f47 := Tryd.func89.trans (congrArg some (by kernel_rfl))
  f48 := Tryd.func90.trans (congrArg some (by kernel_rfl))
  f49 := ⟨Tryd.f91.name, by decide, Tryd.func91.trans (congrArg some (by kernel_rfl))⟩
  f50 := ⟨Tryd.f92.name, by decide, Tryd.func92.trans (congrArg some (by kernel_rfl))⟩
  f57 := ⟨Tryd.f102.name, by decide, Tryd.func102.trans (congrArg some (by kernel_rfl))⟩
  t0 := Tryd.underlying0
  a0 := Tryd.isAgg0
  z0 := Tryd.sizeOf0
  v0 := Tryd.zeroValue0
  t3 := Tryd.underlying3
  a3 := Tryd.isAgg3
  z3 := Tryd.sizeOf3
  v3 := Tryd.zeroValue3
  t4 := Tryd.underlying4
  a4 := Tryd.isAgg4
  z4 := Tryd.sizeOf4
  v4 := Tryd.zeroValue4
  t5 := Tryd.underlying5
  a5 := Tryd.isAgg5
  z5 := Tryd.sizeOf5
  v5 := Tryd.zeroValue5
  t9 := Tryd.underlying9
  a9 := Tryd.isAgg9
  z9 := Tryd.sizeOf9
  v9 := Tryd.zeroValue9
  t22 := Tryd.underlying30
  a22 := Tryd.isAgg30
  z22 := Tryd.sizeOf30
  v22 := Tryd.zeroValue30
  t25 := Tryd.underlying93
  a25 := Tryd.isAgg93
  z25 := Tryd.sizeOf93
  v25 := Tryd.zeroValue93
  t39 := Tryd.underlying64
  a39 := Tryd.isAgg64
  z39 := Tryd.sizeOf64
  v39 := Tryd.zeroValue64
  t45 := Tryd.underlying122
  a45 := Tryd.isAgg122
  z45 := Tryd.sizeOf122
  v45 := Tryd.zeroValue122
  t46 := Tryd.underlying123
  a46 := Tryd.isAgg123
  z46 := Tryd.sizeOf123
  v46 := Tryd.zeroValue123
  t50 := Tryd.underlying106
  a50 := Tryd.isAgg106
  z50 := Tryd.sizeOf106
  v50 := Tryd.zeroValue106
  t53 := Tryd.underlying129
  a53 := Tryd.isAgg129
  z53 := Tryd.sizeOf129
  v53 := Tryd.zeroValue129
  t55 := Tryd.underlying62
  a55 := Tryd.isAgg62
  z55 := Tryd.sizeOf62
  v55 := Tryd.zeroValue62
  t66 := Tryd.underlying139
  a66 := Tryd.isAgg139
  z66 := Tryd.sizeOf139
  v66 := Tryd.zeroValue139
  t70 := Tryd.underlying143
  a70 := Tryd.isAgg143
  z70 := Tryd.sizeOf143
  v70 := Tryd.zeroValue143
  t76 := Tryd.underlying151
  a76 := Tryd.isAgg151
  z76 := Tryd.sizeOf151
  v76 := Tryd.zeroValue151
  t77 := Tryd.underlying152
  a77 := Tryd.isAgg152
  z77 := Tryd.sizeOf152
  v77 := Tryd.zeroValue152 }
end Go.Proofs

/- slices.SortFunc on rows of one's own: keys by Compare, pairs by their keys. -/
namespace Go.Proofs.YtldapckooohigaaDoor
open Go.RowKit Go.Sort
set_option maxRecDepth 100000

section
variable {α : Type} [Inhabited α] {c : α → List Value} {k : Nat}
theorem flatK_eq (hk : ∀ x, (c x).length = k) (hk0 : 0 < k) (D : List α) : flatK c k D.toArray = (D.flatMap c).toArray := by
  refine ext_get! (by rw [size_flatK]; simp only [List.size_toArray]; rw [flat_len hk]) fun t ht => ?_
  have ht' : t < D.length * k := by simpa using ht
  have hq : t / k < D.length := Nat.div_lt_of_lt_mul (by rw [Nat.mul_comm]; exact ht')
  have hm : t % k < k := Nat.mod_lt _ hk0
  have hjk : t / k * k + t % k = t := by rw [Nat.mul_comm]; exact Nat.div_add_mod t k
  rw [get_flatK c k _ t (by simpa using ht')]
  have e0 : D[t / k]? = some D[t / k] := List.getElem?_eq_getElem hq
  have := flat_at hk D (t / k) _ e0 (t % k) hm
  rw [hjk] at this
  have e1 : D.toArray[t / k]! = D[t / k] := by simp [hq]
  rw [e1, List.getElem!_eq_getElem?_getD, ← this]
  simp
theorem own_holds (hk : ∀ x, (c x).length = k) (hk0 : 0 < k) {w : World} {base e n g cap : Nat} {D : List α} (h : w.ownsRow base e k (.slice (some ⟨g, 0, none⟩) n cap) n (D.flatMap c)) : HoldsK c k w g 0 D.toArray := by
  unfold HoldsK
  rw [flatK_eq hk hk0]
  intro j hj
  have hj' : j < (D.flatMap c).length := by simpa using hj
  have h' := h
  rcases h.2 with ⟨e0, _⟩ | ⟨g', cap', cur, hv, _, hg, _⟩
  · cases e0
  · cases hv
    have := h'.cells (g := g) rfl j _ (List.getElem?_eq_getElem hj')
    have e : (⟨g, 0, none⟩ : Addr).add j = ⟨g, j, none⟩ := by unfold Addr.add; split <;> simp_all
    rw [e] at this
    rw [Nat.zero_add]
    refine ⟨?_, frozen_of_heap hg⟩
    rw [this]
    simp [List.getElem?_eq_getElem hj']
/-- A row of one's own behind the sort. -/
theorem own_sorted (hk : ∀ x, (c x).length = k) (hk0 : 0 < k) {w : World} {base e n g cap m : Nat} {D D' : List α} {os : Array Obj} (h : w.ownsRow base e k (.slice (some ⟨g, 0, none⟩) n cap) n (D.flatMap c)) (hl : D'.length = D.length) :
    (sortWorldK c k w g 0 m D'.toArray os).ownsRow base e k (.slice (some ⟨g, 0, none⟩) n cap) n (D'.flatMap c) ∧ Below g w (sortWorldK c k w g 0 m D'.toArray os) ∧ (∀ j, j < w.heap.size → j ≠ g → (sortWorldK c k w g 0 m D'.toArray os).heap[j]? = w.heap[j]?) ∧ w.heap.size ≤ (sortWorldK c k w g 0 m D'.toArray os).heap.size := by
  have hlen := h.1
  rcases h.2 with ⟨e0, _⟩ | ⟨g', cap', cur, hv, hb, hg, hnc, hcm, hcs, ht⟩
  · cases e0
  cases hv
  have hlt := (Array.getElem?_eq_some_iff.1 hg).1
  have hsz : ((D'.flatMap c).toArray).size = n * k := by rw [List.size_toArray, flat_len hk, hl, ← flat_len hk D]; exact hlen
  have hP : (putRowK c k (Sort.ahead w m) g 0 D'.toArray).heap = w.heap.modify g (onCells (putCells id 0 (D'.flatMap c).toArray)) := by
    unfold putRowK
    rw [flatK_eq hk hk0]
    rfl
  have hS : (putRowK c k (Sort.ahead w m) g 0 D'.toArray).heap.size = w.heap.size := by rw [hP]; simp
  have old : ∀ j, j < w.heap.size → (sortWorldK c k w g 0 m D'.toArray os).heap[j]? = (w.heap.modify g (onCells (putCells id 0 (D'.flatMap c).toArray)))[j]? := fun j hj => by
    unfold sortWorldK
    rw [heap_grow_old _ _ (by rw [hS]; exact hj), hP]
  have hoth : ∀ j, j < w.heap.size → j ≠ g → (sortWorldK c k w g 0 m D'.toArray os).heap[j]? = w.heap[j]? := fun j hj hne => by
    rw [old j hj, Array.getElem?_modify, if_neg (Ne.symm hne)]
  have hle : w.heap.size ≤ (sortWorldK c k w g 0 m D'.toArray os).heap.size := by
    unfold sortWorldK Sort.grow
    simp only [Array.size_append]
    rw [hS]
    omega
  refine ⟨⟨by rw [flat_len hk, hl, ← flat_len hk D]; exact hlen, .inr ⟨g, cap, putCells id 0 (D'.flatMap c).toArray cur, rfl, hb, ?_, hnc, hcm, by simp [putCells, hcs], ?_⟩⟩, ⟨rfl, rfl, rfl, hle, fun j hj => hoth j (by omega) (by omega)⟩, hoth, hle⟩
  · rw [old g hlt, Array.getElem?_modify, if_pos rfl, hg]
    rfl
  · have hl' : (D'.flatMap c).length = n * k := by simpa using hsz
    refine List.ext_getElem? fun i => ?_
    by_cases hi : i < n * k
    · have hic : i < cur.size := by rw [hcs]; exact Nat.lt_of_lt_of_le hi (Nat.mul_le_mul_right k hnc)
      rw [List.getElem?_take_of_lt hi]
      simp only [putCells, Array.toList_mapIdx, List.getElem?_mapIdx]
      rw [List.getElem?_eq_getElem (by simpa using hic)]
      simp only [Option.map_some, Nat.zero_le, Nat.zero_add, true_and, Nat.sub_zero, id]
      rw [if_pos (by rw [hsz]; exact hi), List.getElem?_eq_getElem (by rw [hl']; exact hi)]
      have hi' : i < (D'.flatMap c).length := by rw [hl']; exact hi
      simp [List.getElem?_eq_getElem hi']
    · rw [List.getElem?_eq_none (by rw [List.length_take]; omega), List.getElem?_eq_none (by rw [hl']; omega)]
end

/-! ### keys -/
theorem ltOf_cmpK (x y : Ky) : ltOf cmpK x y = decide (ltK x y) := by
  unfold ltOf
  rw [decide_eq_decide]
  exact cmpK_neg x y
theorem swoK : SWO (ltOf cmpK) where
  irrefl x := by rw [ltOf_cmpK]; simp [ltK_irrefl]
  trans x y z h1 h2 := by
    rw [ltOf_cmpK, decide_eq_true_eq] at *
    exact ltK_trans h1 h2
  ntrans x y z h1 h2 := by
    rw [ltOf_cmpK, decide_eq_false_iff_not] at *
    unfold ltK at *
    omega
theorem cmpLaysK (blk off size : Nat) (w : World) : CmpLays Tryd.prog 47 #[] kC 2 cmpK blk off size w := fun _ _ _ _ x y => (compare_any x.1 x.2 y.1 y.2 _).mono fun _ _ ⟨he, q, os, hw⟩ => ⟨he, q, os, hw⟩
theorem enters10 : ∀ args w, (callFunc 47 args).run Tryd.prog w = .ok (.enter 47 args) w := enters_of Tryd.func47 (by kernel_rfl) rfl
/-- Rising, each once. -/
def Rises (l : List Ky) : Prop := l.Pairwise ltK
/-! ### pairs -/
def cmpP (x y : Pr) : Int := cmpK x.1 y.1
theorem cmpP_any (x y : Pr) (w : World) : Calls Tryd.prog 61 #[.agg #[.int .i32 x.1.1, .int .i64 x.1.2, .int .i64 x.2], .agg #[.int .i32 y.1.1, .int .i64 y.1.2, .int .i64 y.2]] w fun e w' => e = .returned (.int .i64 (cmpP x y)) ∧ Grew w w' := by
  obtain ⟨⟨x0, x1⟩, x2⟩ := x
  obtain ⟨⟨y0, y1⟩, y2⟩ := y
  unfold cmpP
  have hg : Grew w ((w.alloc (.cells #[.int .i32 x0, .int .i64 x1, .int .i64 x2] 45)).alloc (.cells #[.int .i32 y0, .int .i64 y1, .int .i64 y2] 45)) := grew_alloc (grew_alloc (grew_refl _) _) _
  have HG := hide hg
  have HC : Hid (∀ x, Calls Tryd.prog 47 #[.agg #[.int .i32 x0, .int .i64 x1], .agg #[.int .i32 y0, .int .i64 y1]] x fun e w' => e = .returned (.int .i64 (cmpK (x0, x1) (y0, y1))) ∧ Grew x w') := fun x => compare_any x0 x1 y0 y1 x
  obtain ⟨r, hr⟩ : ∃ r, cmpK (x0, x1) (y0, y1) = r := ⟨_, rfl⟩
  simp only at hr ⊢
  rw [hr] at HC ⊢
  clear hg hr
  go_enter Tryd.func61, Tryd.ntmps61
  go_wp2_with (go_at_call 47; refine (unhide HC _).mono ?_; rintro e w1 ⟨rfl, hg1⟩; have HG1 := hide hg1; clear hg1)
  go_ret
  exact ⟨rfl, grew_trans (unhide HG) (unhide HG1)⟩
theorem ltOf_cmpP (x y : Pr) : ltOf cmpP x y = decide (ltK x.1 y.1) := ltOf_cmpK x.1 y.1
theorem swoP : SWO (ltOf cmpP) where
  irrefl x := swoK.irrefl x.1
  trans x y z h1 h2 := swoK.trans x.1 y.1 z.1 h1 h2
  ntrans x y z h1 h2 := swoK.ntrans x.1 y.1 z.1 h1 h2
theorem cmpLaysP (blk off size : Nat) (w : World) : CmpLays Tryd.prog 61 #[] pC 3 cmpP blk off size w := fun _ _ _ _ x y => (cmpP_any x y _).mono fun _ _ ⟨he, q, os, hw⟩ => ⟨he, q, os, hw⟩
theorem enters42 : ∀ args w, (callFunc 61 args).run Tryd.prog w = .ok (.enter 61 args) w := enters_of Tryd.func61 (by kernel_rfl) rfl
def RisesP (l : List Pr) : Prop := l.Pairwise fun a b => ltK a.1 b.1
theorem sortP_any {w : World} {base n : Nat} {v : Value} {D : List Pr} (h : w.ownsRow base 45 3 v n (D.flatMap pC)) (hd : (D.map (·.1)).Nodup) (hn : n < 4611686018427387904) (hbase : base ≤ w.heap.size) :
    Calls Tryd.prog 60 #[v, .func (.func 61) #[] #[]] w fun e w' => e = .returned (.tuple #[]) ∧ ∃ D', w'.ownsRow base 45 3 v n (D'.flatMap pC) ∧ RisesP D' ∧ D'.Perm D ∧ Below base w w' := by
  obtain ⟨hnl, _⟩ := own_sees pC_len (by decide) h
  rcases h.2 with ⟨rfl, h0⟩ | ⟨g, cap, cur, rfl, hb, hg, _⟩
  · subst h0
    obtain rfl : D = [] := List.length_eq_zero_iff.1 hnl.symm
    refine (AnyF.slices_SortFunc_none { Tryd.sortP with } none 0 (.func (.func 61) #[] #[]) w).mono fun e w' hh => ?_
    obtain ⟨rfl, rfl⟩ := hh
    exact ⟨rfl, [], h, List.Pairwise.nil, List.Perm.refl _, Below.refl _ _⟩
  · have hsz : D.toArray.size = n := by simpa using hnl.symm
    have hcon := AnyQ.slices_SortFunc Tryd.sortP 3 Tryd.isAgg45 Tryd.sizeOf45 pC pC_len pC_one cmpP swoP 61 #[] g 0 cap D.toArray w enters42 (cmpLaysP g 0 D.toArray.size w) (own_holds pC_len (by decide) h) (Array.getElem?_eq_some_iff.1 hg).1 (by rw [hsz]; exact hn)
    rw [hsz] at hcon
    refine hcon.mono fun e w' hh => ?_
    obtain ⟨rfl, ⟨D'⟩, m, os, ⟨hs1, _, hp⟩, hso, rfl⟩ := hh
    have hl : D'.length = D.length := by simpa using hs1
    have e1 : (Array.mk D').extract 0 n = Array.mk D' := by
      have : n = (Array.mk D').size := by simp [hl, hnl]
      rw [this]; exact Array.extract_size
    have e2 : D.toArray.extract 0 n = D.toArray := by rw [← hsz]; exact Array.extract_size
    rw [e1, e2] at hp
    simp only at hp
    obtain ⟨o1, o2, o3, o4⟩ := own_sorted (m := m) (os := os) pC_len (by decide) h hl
    refine ⟨rfl, D', o1, ?_, hp, ⟨o2.os, o2.tape, o2.output, o2.size, fun j hj => o3 j (by omega) (by omega)⟩⟩
    have hnd : (D'.map (·.1)).Nodup := (hp.map _).nodup_iff.2 hd
    refine List.pairwise_iff_getElem.2 fun i j hi hj hij => ?_
    have hx := hso i j (Nat.zero_le _) hij (by omega)
    have gi : (Array.mk D')[i]! = D'[i] := by simp [hi]
    have gj : (Array.mk D')[j]! = D'[j] := by simp [hj]
    rw [gi, gj, ltOf_cmpP, decide_eq_false_iff_not] at hx
    by_cases hlt : ltK D'[i].1 D'[j].1
    · exact hlt
    · have he := ltK_total hlt hx
      have := List.pairwise_iff_getElem.1 hnd i j (by simpa using hi) (by simpa using hj) hij
      simp only [List.getElem_map] at this
      exact absurd he this
end Go.Proofs.YtldapckooohigaaDoor
