/- A map with keys as keys and cells as values, held against a store's nodes: asked, a key more, a key's value turned, a key less. -/
import Derived.Test.YtdcmkapfcmibeaaDoorMP
import Derived.DeepKeys4
import Derived.Maps.RangeRun
import Derived.ChangeMaps5
namespace Go.Proofs.YtdcmkapfcmibeaaDoor
open Go.RowKit
open Go.ChangeMaps (setBlock heap_setBlock_same heap_setBlock_other)
set_option maxRecDepth 100000

def keyV (k : Ky) : Value := .agg #[.int .i32 k.1, .int .i64 k.2]
def celV (c : Pr) : Value := .agg #[.int .i32 c.1.1, .int .i64 c.1.2, .int .i64 c.2.1, .int .i64 c.2.2]
theorem laidOutK : laidOutB Tryd.prog = true := by kernel_rfl
theorem Tryd.keyType30 : Tryd.prog.keyType 30 = true := by kernel_rfl
theorem key_law : WideMaps.KeyLaw Tryd.prog 30 := deep_law_laid laidOutK (m := 2) (by decide) (of_decide_eq_true (by kernel_rfl)) (by kernel_rfl) (by kernel_rfl)
theorem key_fields : (Tryd.prog.underlying 30).bind (fun d => match d with | .struct fs => some (fs.toList.map fun f => (f.type, f.offset, f.name != "_")) | _ => none) = some [(21, 0, true), (2, 1, true)] := by kernel_rfl
theorem keyOf_two {P : Program} {k e f : TypeId} (hw : (P.underlying k).bind (fun d => match d with | .struct fs => some (fs.toList.map fun f => (f.type, f.offset, f.name != "_")) | _ => none) = some [(e, 0, true), (f, 1, true)])
    (hkt : P.keyType k = true) (hc : P.cellsOf k = 2) (he : P.underlying e = some (.int .i32)) (hce : P.cellsOf e = 1) (hf : P.underlying f = some (.int .i64)) (hcf : P.cellsOf f = 1) (hsz : ∃ m, P.types.size = m + 1) {a : Ky} (ha : (Lit.int .i32 a.1).wf = true) (hb : (Lit.int .i64 a.2).wf = true) : ∃ s, keyOf P k (keyV a) = some s := by
  obtain ⟨m, hm⟩ := hsz
  unfold keyOf
  cases hu : P.underlying k with
  | none => rw [hu] at hw; simp at hw
  | some d =>
    rw [hu] at hw
    cases d with
    | struct fs =>
      obtain ⟨fs⟩ := fs
      simp only [Option.bind_some, Option.some.injEq] at hw
      have hl : fs.length = 2 := by have := congrArg List.length hw; simpa using this
      obtain ⟨f0, f1, rfl⟩ : ∃ x y, fs = [x, y] := by
        match fs, hl with
        | [x, y], _ => exact ⟨x, y, rfl⟩
      simp only [List.map_cons, List.map_nil, List.cons.injEq, Prod.mk.injEq, and_true] at hw
      obtain ⟨⟨t0, o0, n0⟩, t1, o1, n1⟩ := hw
      have hf' : (keyV a).formed P k = true := by simp [keyV, Value.formed, hu, hc]
      simp only [hkt, hf', Bool.and_self, if_true, hm]
      unfold Program.keyLits
      simp [hu, keyV, Value.cells, hc, n0, n1, t0, t1, o0, o1, hce, hcf, Program.keyLits, he, hf, ha, hb]
    | _ => simp at hw
theorem Tryd.sizeS : ∃ m, Tryd.prog.types.size = m + 1 := ⟨Tryd.prog.types.size - 1, by kernel_rfl⟩
theorem wf32 {a : Int} (h : -2147483648 ≤ a ∧ a ≤ 2147483647) : (Lit.int .i32 a).wf = true := by
  have e1 : IntKind.i32.min = -2147483648 := by decide
  have e2 : IntKind.i32.max = 2147483647 := by decide
  simp only [Lit.wf, e1, e2, Bool.and_eq_true, decide_eq_true_eq]
  exact h
theorem wf64 {a : Int} (h : -9223372036854775808 ≤ a ∧ a ≤ 9223372036854775807) : (Lit.int .i64 a).wf = true := by
  have e1 : IntKind.i64.min = -9223372036854775808 := by decide
  have e2 : IntKind.i64.max = 9223372036854775807 := by decide
  simp only [Lit.wf, e1, e2, Bool.and_eq_true, decide_eq_true_eq]
  exact h
def InK (k : Ky) : Prop := (-2147483648 ≤ k.1 ∧ k.1 ≤ 2147483647) ∧ -9223372036854775808 ≤ k.2 ∧ k.2 ≤ 9223372036854775807
theorem keyOf_key {k : Ky} (h : InK k) : ∃ s, keyOf Tryd.prog 30 (keyV k) = some s :=
  keyOf_two key_fields Tryd.keyType30 (by kernel_rfl) Tryd.underlying21 (by kernel_rfl) Tryd.underlying2 (by kernel_rfl) Tryd.sizeS (wf32 h.1) (wf64 h.2)
theorem keyV_inj {a b : Ky} (h : keyV a = keyV b) : a = b := by
  simp only [keyV, Value.agg.injEq, Array.mk.injEq, List.cons.injEq, Value.int.injEq, true_and, and_true] at h
  exact Prod.ext h.1 h.2

def ent (c : Pr) : Value × Value := (keyV c.1, celV c)
/-- A map in memory that holds what the nodes hold, in an order of its own. -/
def MapL (w : World) (mb : Nat) (L : List Nd) : Prop := ∃ es clock, w.heap[mb]? = some (.map es clock) ∧ ∃ q : List Pr, es.toList.map (fun e => (e.key, e.val)) = q.map ent ∧ q.Perm (L.map cl)
theorem MapL.lt {w : World} {mb : Nat} {L : List Nd} (h : MapL w mb L) : mb < w.heap.size := by
  obtain ⟨es, c, h, _⟩ := h
  exact (Array.getElem?_eq_some_iff.1 h).1
theorem MapL.keep {w w' : World} {mb : Nat} {L : List Nd} (h : MapL w mb L) (hk : w'.heap[mb]? = w.heap[mb]?) : MapL w' mb L := by
  obtain ⟨es, c, h1, h2⟩ := h
  exact ⟨es, c, hk.trans h1, h2⟩
theorem MapL.below {w w' : World} {mb : Nat} {L : List Nd} (h : MapL w mb L) (hb : Below w.heap.size w w') : MapL w' mb L := h.keep (hb.block _ h.lt)
theorem MapL.ents {w : World} {mb : Nat} {L : List Nd} (h : MapL w mb L) : ∃ es clock, w.heap[mb]? = some (.map es clock) ∧ ∃ q : List Pr, es.toList.map (fun e => (e.key, e.val)) = q.map ent ∧ q.Perm (L.map cl) ∧ es.toList.length = q.length ∧ (∀ (j : Nat) e, es.toList[j]? = some e → ∃ c, q[j]? = some c ∧ e.key = keyV c.1 ∧ e.val = celV c ∧ ∃ n ∈ L, cl n = c) ∧ ∀ n ∈ L, ∃ e ∈ es.toList, e.key = keyV n.k := by
  obtain ⟨es, clock, hm, q, hes, hq⟩ := h
  have hl : es.toList.length = q.length := by have := congrArg List.length hes; simpa using this
  refine ⟨es, clock, hm, q, hes, hq, hl, fun j e he => ?_, fun n hn => ?_⟩
  · have h1 : (es.toList.map (fun e => (e.key, e.val)))[j]? = some (e.key, e.val) := by rw [List.getElem?_map, he]; rfl
    rw [hes, List.getElem?_map] at h1
    obtain ⟨c, hc, e1⟩ := Option.map_eq_some_iff.1 h1
    simp only [ent, Prod.mk.injEq] at e1
    obtain ⟨n, hn, e2⟩ := List.mem_map.1 (hq.mem_iff.1 (List.mem_of_getElem? hc))
    exact ⟨c, hc, e1.1.symm, e1.2.symm, n, hn, e2⟩
  · have h1 : cl n ∈ q := hq.mem_iff.2 (List.mem_map.2 ⟨n, hn, rfl⟩)
    have h2 : ent (cl n) ∈ es.toList.map (fun e => (e.key, e.val)) := by rw [hes]; exact List.mem_map.2 ⟨_, h1, rfl⟩
    obtain ⟨e, he, e1⟩ := List.mem_map.1 h2
    simp only [ent, Prod.mk.injEq] at e1
    exact ⟨e, he, e1.1⟩
theorem rising_one {L : List Nd} (h : Rising L) {a b : Nd} (ha : a ∈ L) (hb : b ∈ L) (e : a.k = b.k) : a = b := by
  obtain ⟨i, hi, rfl⟩ := List.getElem_of_mem ha
  obtain ⟨j, hj, rfl⟩ := List.getElem_of_mem hb
  have hp := List.pairwise_iff_getElem.1 h
  rcases Nat.lt_trichotomy i j with c | c | c
  · exact absurd (e ▸ hp i j hi hj c) (ltK_irrefl _)
  · subst c; rfl
  · exact absurd (e ▸ hp j i hj hi c) (ltK_irrefl _)
section
variable {w : World} {mb : Nat} {L T R : List Nd}
/-- Asked for a key that no node has. -/
theorem look_no (h : MapL w mb L) (ho : ∀ n ∈ L, OkN n) {k : Ky} (hk : InK k) (hno : ∀ n ∈ L, n.k ≠ k) :
    (Instr.lookup 48 (.map (some mb)) (.agg #[.int .i32 k.1, .int .i64 k.2]) true).run Tryd.prog w = .ok (.tuple #[.agg #[.int .i32 0, .int .i64 0, .int .i64 0, .int .i64 0], .bool false]) w := by
  obtain ⟨es, clock, hm, q, hes, hq, hl, hent, hrev⟩ := h.ents
  obtain ⟨s, hs⟩ := keyOf_key hk
  have hall : ∀ e ∈ es.toList, ∃ l, keyOf Tryd.prog 30 e.key = some l := fun e he => by
    obtain ⟨j, hj⟩ := List.getElem?_of_mem he
    obtain ⟨c, _, e1, _, n, hn, rfl⟩ := hent j e hj
    rw [e1]
    exact keyOf_key ⟨(ho n hn).t, (ho n hn).r⟩
  rcases key_law.find w hs es.toList hall with ⟨h1, _⟩ | ⟨j, e0, _, h2, h3⟩
  · have h4 := fun b => key_law.check w b hs
    have h5 : (zeroValue 32).run Tryd.prog w = .ok (.agg #[.int .i32 0, .int .i64 0, .int .i64 0, .int .i64 0]) w := Tryd.zeroValue32 w
    unfold keyV at h1 h4
    simp [Instr.lookup, run_underlying Tryd.underlying48, MapKept.run_getObj_map hm, h4, h1, Result.andThen, h5]
  · obtain ⟨c, _, e1, _, n, hn, rfl⟩ := hent j e0 h2
    exact absurd (keyV_inj (e1.symm.trans h3)) (hno n hn)
/-- Asked for a key that a node has. -/
theorem look_has (h : MapL w mb L) (hr : Rising L) (ho : ∀ n ∈ L, OkN n) {n : Nd} (hn : n ∈ L) :
    (Instr.lookup 48 (.map (some mb)) (.agg #[.int .i32 n.k.1, .int .i64 n.k.2]) true).run Tryd.prog w = .ok (.tuple #[.agg #[.int .i32 n.k.1, .int .i64 n.k.2, .int .i64 n.v, .int .i64 n.s], .bool true]) w := by
  obtain ⟨es, clock, hm, q, hes, hq, hl, hent, hrev⟩ := h.ents
  obtain ⟨s, hs⟩ := keyOf_key (k := n.k) ⟨(ho n hn).t, (ho n hn).r⟩
  have hall : ∀ e ∈ es.toList, ∃ l, keyOf Tryd.prog 30 e.key = some l := fun e he => by
    obtain ⟨j, hj⟩ := List.getElem?_of_mem he
    obtain ⟨c, _, e1, _, n, hn, rfl⟩ := hent j e hj
    rw [e1]
    exact keyOf_key ⟨(ho n hn).t, (ho n hn).r⟩
  rcases key_law.find w hs es.toList hall with ⟨_, h2⟩ | ⟨j, e0, h1, h2, h3⟩
  · obtain ⟨e, he, e1⟩ := hrev _ hn
    exact absurd e1 (h2 e he)
  · obtain ⟨c, _, e1, e2, m, hm', rfl⟩ := hent j e0 h2
    have e3 := rising_one hr hm' hn (keyV_inj (e1.symm.trans h3))
    subst e3
    have h4 := fun b => key_law.check w b hs
    unfold keyV at h1 h4
    simp [Instr.lookup, run_underlying Tryd.underlying48, MapKept.run_getObj_map hm, h4, h1, Result.andThen, e2, celV, cl]
/-- How many there are. -/
theorem map_len (h : MapL w mb L) (ty : TypeId) : (Builtin.len_ #[48] ty #[.map (some mb)]).run Tryd.prog w = .ok (.int .i64 (L.length : Int)) w := by
  obtain ⟨es, clock, hm, q, hes, hq, hl, _⟩ := h.ents
  have e : es.size = L.length := by
    have := hq.length_eq
    rw [List.length_map] at this
    rw [← this, ← hl]
    simp
  rw [← e]
  exact run_len_map w 48 ty mb es clock (by kernel_rfl) hm
/-- What a map's write leaves. -/
def Wr1 (mb : Nat) (w y : World) : Prop := (∀ j, j ≠ mb → y.heap[j]? = w.heap[j]?) ∧ y.heap.size = w.heap.size ∧ y.os = w.os ∧ y.tape = w.tape ∧ y.output = w.output
theorem wr1_set {es es' : Array MapEntry} {c c' : Nat} (hm : w.heap[mb]? = some (.map es c)) : Wr1 mb w (setBlock w mb (.map es' c')) :=
  ⟨fun j hj => heap_setBlock_other hm _ hj, by simp [setBlock], rfl, rfl, rfl⟩
/-- A key more. -/
theorem map_new (h : MapL w mb (T ++ R)) (ho : ∀ n ∈ T ++ R, OkN n) {n : Nd} (hk : InK n.k) (hno : ∀ m ∈ T ++ R, m.k ≠ n.k) :
    ∃ y, (Instr.mapUpdate 48 (.map (some mb)) (.agg #[.int .i32 n.k.1, .int .i64 n.k.2]) (.agg #[.int .i32 n.k.1, .int .i64 n.k.2, .int .i64 n.v, .int .i64 n.s])).run Tryd.prog w = .ok () y ∧ MapL y mb (T ++ n :: R) ∧ Wr1 mb w y := by
  obtain ⟨es, clock, hm, q, hes, hq, hl, hent, hrev⟩ := h.ents
  obtain ⟨s, hs⟩ := keyOf_key hk
  have hall : ∀ e ∈ es.toList, ∃ l, keyOf Tryd.prog 30 e.key = some l := fun e he => by
    obtain ⟨j, hj⟩ := List.getElem?_of_mem he
    obtain ⟨c, _, e1, _, n, hn, rfl⟩ := hent j e hj
    rw [e1]
    exact keyOf_key ⟨(ho n hn).t, (ho n hn).r⟩
  rcases key_law.find w hs es.toList hall with ⟨h1, _⟩ | ⟨j, e0, _, h2, h3⟩
  · refine ⟨setBlock w mb (.map (es.push ⟨keyV n.k, celV (cl n), clock⟩) (clock + 1)), ?_, ⟨_, _, heap_setBlock_same hm _, q ++ [cl n], ?_, ?_⟩, wr1_set hm⟩
    · have h4 := fun b => key_law.check w b hs
      unfold keyV at h1 h4
      simp [Instr.mapUpdate, run_underlying Tryd.underlying48, MapKept.run_getObj_map hm, h4, h1, MapKept.run_setObj_map _ hm, Result.andThen, setBlock, keyV, celV, cl]
    · rw [Array.toList_push, List.map_append, hes, List.map_append]
      rfl
    · refine (List.perm_append_singleton _ _).trans ?_
      rw [List.map_append, List.map_cons]
      refine (List.Perm.cons _ ?_).trans List.perm_middle.symm
      rw [← List.map_append]
      exact hq
  · obtain ⟨c, _, e1, _, m, hm', rfl⟩ := hent j e0 h2
    exact absurd (keyV_inj (e1.symm.trans h3)) (hno m hm')
theorem perm_at {q : List Pr} {n : Nd} (hq : q.Perm ((T ++ n :: R).map cl)) {j : Nat} (hj : q[j]? = some (cl n)) : (q.eraseIdx j).Perm ((T ++ R).map cl) := by
  obtain ⟨hlt, e⟩ := List.getElem?_eq_some_iff.1 hj
  have h1 : (cl n :: q.eraseIdx j).Perm q := by have := ChangeMaps.set_perm q j hlt (q[j]); rw [List.set_getElem_self, e] at this; exact this.symm
  have h2 : ((T ++ n :: R).map cl).Perm (cl n :: (T ++ R).map cl) := by
    rw [List.map_append, List.map_cons, List.map_append]
    exact List.perm_middle
  exact ((h1.trans hq).trans h2).cons_inv
/-- A key's value turned. -/
theorem map_set {n n' : Nd} (h : MapL w mb (T ++ n :: R)) (hr : Rising (T ++ n :: R)) (ho : ∀ m ∈ T ++ n :: R, OkN m) (hk : n'.k = n.k) :
    ∃ y, (Instr.mapUpdate 48 (.map (some mb)) (.agg #[.int .i32 n.k.1, .int .i64 n.k.2]) (.agg #[.int .i32 n.k.1, .int .i64 n.k.2, .int .i64 n'.v, .int .i64 n'.s])).run Tryd.prog w = .ok () y ∧ MapL y mb (T ++ n' :: R) ∧ Wr1 mb w y := by
  obtain ⟨es, clock, hm, q, hes, hq, hl, hent, hrev⟩ := h.ents
  have hn : n ∈ T ++ n :: R := by simp
  obtain ⟨s, hs⟩ := keyOf_key (k := n.k) ⟨(ho n hn).t, (ho n hn).r⟩
  have hall : ∀ e ∈ es.toList, ∃ l, keyOf Tryd.prog 30 e.key = some l := fun e he => by
    obtain ⟨j, hj⟩ := List.getElem?_of_mem he
    obtain ⟨c, _, e1, _, n, hn, rfl⟩ := hent j e hj
    rw [e1]
    exact keyOf_key ⟨(ho n hn).t, (ho n hn).r⟩
  rcases key_law.find w hs es.toList hall with ⟨_, h2⟩ | ⟨j, e0, h1, h2, h3⟩
  · obtain ⟨e, he, e1⟩ := hrev _ hn
    exact absurd e1 (h2 e he)
  · obtain ⟨c, hc, e1, e2, m, hm', rfl⟩ := hent j e0 h2
    have e3 := rising_one hr hm' hn (keyV_inj (e1.symm.trans h3))
    subst e3
    have hj : es[j]? = some e0 := by simpa using h2
    have hjl : j < q.length := (List.getElem?_eq_some_iff.1 hc).1
    refine ⟨setBlock w mb (.map (es.modify j (fun e' => { e' with key := keyV m.k, val := celV (cl n') })) clock), ?_, ⟨_, _, heap_setBlock_same hm _, q.set j (cl n'), ?_, ?_⟩, wr1_set hm⟩
    · have h4 := fun b => key_law.check w b hs
      have h5 := key_law.stays w hs
      unfold keyV at h1 h3 h4 h5
      simp [Instr.mapUpdate, run_underlying Tryd.underlying48, MapKept.run_getObj_map hm, h4, h1, hj, h3, h5, MapKept.run_setObj_map _ hm, Result.andThen, setBlock, keyV, celV, cl, hk]
    · rw [Array.toList_modify, ChangeMaps.modify_eq_set _ _ _ _ h2, List.map_set, hes, List.map_set]
      simp [ent, cl, hk]
    · refine (ChangeMaps.set_perm _ _ hjl _).trans ?_
      rw [List.map_append, List.map_cons]
      refine (List.Perm.cons _ ?_).trans List.perm_middle.symm
      rw [← List.map_append]
      exact perm_at hq hc
/-- A key less. -/
theorem map_del {n : Nd} (h : MapL w mb (T ++ n :: R)) (hr : Rising (T ++ n :: R)) (ho : ∀ m ∈ T ++ n :: R, OkN m) :
    ∃ y, (∀ ty, (Builtin.delete_ #[48, 30] ty #[.map (some mb), .agg #[.int .i32 n.k.1, .int .i64 n.k.2]]).run Tryd.prog w = .ok (.tuple #[]) y) ∧ MapL y mb (T ++ R) ∧ Wr1 mb w y := by
  obtain ⟨es, clock, hm, q, hes, hq, hl, hent, hrev⟩ := h.ents
  have hn : n ∈ T ++ n :: R := by simp
  obtain ⟨s, hs⟩ := keyOf_key (k := n.k) ⟨(ho n hn).t, (ho n hn).r⟩
  have hall : ∀ e ∈ es.toList, ∃ l, keyOf Tryd.prog 30 e.key = some l := fun e he => by
    obtain ⟨j, hj⟩ := List.getElem?_of_mem he
    obtain ⟨c, _, e1, _, n, hn, rfl⟩ := hent j e hj
    rw [e1]
    exact keyOf_key ⟨(ho n hn).t, (ho n hn).r⟩
  rcases key_law.find w hs es.toList hall with ⟨_, h2⟩ | ⟨j, e0, h1, h2, h3⟩
  · obtain ⟨e, he, e1⟩ := hrev _ hn
    exact absurd e1 (h2 e he)
  · obtain ⟨c, hc, e1, e2, m, hm', rfl⟩ := hent j e0 h2
    have e3 := rising_one hr hm' hn (keyV_inj (e1.symm.trans h3))
    subst e3
    have hjs : j < es.size := by have := (List.getElem?_eq_some_iff.1 h2).1; simpa using this
    have hsub : (es.eraseIdxIfInBounds j).toList = es.toList.eraseIdx j := by
      unfold Array.eraseIdxIfInBounds
      rw [dif_pos hjs]
      simp
    refine ⟨setBlock w mb (.map (es.eraseIdxIfInBounds j) clock), ?_, ⟨_, _, heap_setBlock_same hm _, q.eraseIdx j, ?_, perm_at hq hc⟩, wr1_set hm⟩
    · intro ty
      have h4 := fun b => key_law.check w b hs
      unfold keyV at h1 h4
      simp [Builtin.delete_, run_underlying Tryd.underlying48, MapKept.run_getObj_map hm, h4, h1, MapKept.run_setObj_map _ hm, Result.andThen, setBlock]
    · rw [hsub, ChangeMaps.map_eraseIdx, ChangeMaps.map_eraseIdx, hes]
/-- Less a key that isn't there. -/
theorem map_del_no (h : MapL w mb L) (ho : ∀ n ∈ L, OkN n) {k : Ky} (hk : InK k) (hno : ∀ n ∈ L, n.k ≠ k) :
    ∃ y, (∀ ty, (Builtin.delete_ #[48, 30] ty #[.map (some mb), .agg #[.int .i32 k.1, .int .i64 k.2]]).run Tryd.prog w = .ok (.tuple #[]) y) ∧ MapL y mb L ∧ Wr1 mb w y := by
  obtain ⟨es, clock, hm, q, hes, hq, hl, hent, hrev⟩ := h.ents
  obtain ⟨s, hs⟩ := keyOf_key hk
  have hall : ∀ e ∈ es.toList, ∃ l, keyOf Tryd.prog 30 e.key = some l := fun e he => by
    obtain ⟨j, hj⟩ := List.getElem?_of_mem he
    obtain ⟨c, _, e1, _, n, hn, rfl⟩ := hent j e hj
    rw [e1]
    exact keyOf_key ⟨(ho n hn).t, (ho n hn).r⟩
  rcases key_law.find w hs es.toList hall with ⟨h1, _⟩ | ⟨j, e0, _, h2, h3⟩
  · refine ⟨setBlock w mb (.map es clock), ?_, ⟨_, _, heap_setBlock_same hm _, q, hes, hq⟩, wr1_set hm⟩
    intro ty
    have h4 := fun b => key_law.check w b hs
    unfold keyV at h1 h4
    simp [Builtin.delete_, run_underlying Tryd.underlying48, MapKept.run_getObj_map hm, h4, h1, MapKept.run_setObj_map _ hm, Result.andThen, setBlock]
  · obtain ⟨c, _, e1, _, n, hn, rfl⟩ := hent j e0 h2
    exact absurd (keyV_inj (e1.symm.trans h3)) (hno n hn)
end
end Go.Proofs.YtdcmkapfcmibeaaDoor
