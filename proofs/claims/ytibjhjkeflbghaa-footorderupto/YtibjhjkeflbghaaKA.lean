/- Several texts as one. -/
import Derived.Test.YtibjhjkeflbghaaA1
import Derived.Laws.OwnMore
import Derived.DeepKeys4
import Derived.Maps.RangeRun
import Derived.ChangeMaps5

/- Lists of keys and of pairs in memory: seen, and one's own. -/
namespace Go.Proofs.Ytibjhjkeflbghaa
open Go.RowKit
set_option maxRecDepth 100000

abbrev Ky := Int × Int
abbrev Pr := (Int × Int) × Int
def kC (k : Ky) : List Value := [.int .i32 k.1, .int .i64 k.2]
def pC (p : Pr) : List Value := [.int .i32 p.1.1, .int .i64 p.1.2, .int .i64 p.2]
theorem kC_len (k : Ky) : (kC k).length = 2 := rfl
theorem pC_len (p : Pr) : (pC p).length = 3 := rfl
theorem kC_one (k : Ky) : ∀ u ∈ kC k, u.oneCell' = true := by
  intro u hu
  simp only [kC, List.mem_cons, List.not_mem_nil, or_false] at hu
  rcases hu with rfl | rfl <;> rfl
theorem pC_one (k : Pr) : ∀ u ∈ pC k, u.oneCell' = true := by
  intro u hu
  simp only [pC, List.mem_cons, List.not_mem_nil, or_false] at hu
  rcases hu with rfl | rfl | rfl <;> rfl

section
variable {α : Type} {c : α → List Value} {k : Nat}
theorem flat_len (hk : ∀ x, (c x).length = k) : ∀ l : List α, (l.flatMap c).length = l.length * k
  | [] => by simp
  | p :: r => by rw [List.flatMap_cons, List.length_append, flat_len hk r, hk, List.length_cons, Nat.add_mul]; omega
theorem flat_at (hk : ∀ x, (c x).length = k) : ∀ (l : List α) (t : Nat) (p : α), l[t]? = some p → ∀ j, j < k → (l.flatMap c)[t * k + j]? = (c p)[j]?
  | [], t, p, h, j, hj => by simp at h
  | q :: r, 0, p, h, j, hj => by
    obtain rfl := Option.some.inj h
    rw [List.flatMap_cons, Nat.zero_mul, Nat.zero_add, List.getElem?_append_left (by rw [hk]; exact hj)]
  | q :: r, t + 1, p, h, j, hj => by
    rw [List.flatMap_cons, List.getElem?_append_right (by rw [hk, Nat.add_mul]; omega), hk, show (t + 1) * k + j - k = t * k + j by rw [Nat.add_mul]; omega]
    exact flat_at hk r t p (by simpa using h) j hj
theorem flat_one (h1 : ∀ x, ∀ u ∈ c x, u.oneCell' = true) (l : List α) : ∀ u ∈ l.flatMap c, u.oneCell' = true := fun u hu => by
  obtain ⟨x, _, hx⟩ := List.mem_flatMap.1 hu
  exact h1 x u hx

/-- Elements of k cells each, seen under a slice. -/
def SeesL (c : α → List Value) (k : Nat) (w : World) (v : Value) (l : List α) : Prop :=
  ∃ ao cap gb ob, v = .slice ao l.length cap ∧ l.length ≤ cap ∧ l.length ≤ 9223372036854775807 ∧ (ao = none → cap = 0) ∧ (0 < l.length → ao = some ⟨gb, ob, none⟩) ∧ ∀ (t : Nat) (x : α), l[t]? = some x → ∀ j, j < k → w.cell? ⟨gb, ob + t * k + j, none⟩ = (c x)[j]?
theorem SeesL.shape {w : World} {v : Value} {l : List α} (h : SeesL c k w v l) : ∃ ao cap, v = .slice ao l.length cap := by
  obtain ⟨ao, cap, _, _, h, _⟩ := h
  exact ⟨ao, cap, h⟩
theorem SeesL.keep (hk : ∀ x, (c x).length = k) {w w' : World} {v : Value} {l : List α} (h : SeesL c k w v l) (hc : ∀ p x, w.cell? p = some x → w'.cell? p = some x) : SeesL c k w' v l := by
  obtain ⟨ao, cap, gb, ob, h1, h2, h3, h4, h5, h6⟩ := h
  refine ⟨ao, cap, gb, ob, h1, h2, h3, h4, h5, fun t x hx j hj => ?_⟩
  have := h6 t x hx j hj
  rw [List.getElem?_eq_getElem (by rw [hk]; exact hj)] at this ⊢
  exact hc _ _ this
theorem SeesL.below (hk : ∀ x, (c x).length = k) {w w' : World} {v : Value} {l : List α} (h : SeesL c k w v l) (hb : Below w.heap.size w w') : SeesL c k w' v l :=
  h.keep hk fun p _ hp => (hb.cell (World.block_lt_of_cell? w p hp)).trans hp
theorem SeesL.nil (w : World) : SeesL c k w (.slice none 0 0) [] := ⟨none, 0, 0, 0, rfl, Nat.le_refl _, by simp, fun _ => rfl, fun h => absurd h (by simp), fun t x h => by simp at h⟩
/-- What is one's own is seen. -/
theorem own_sees (hk : ∀ x, (c x).length = k) (hk0 : 0 < k) {w : World} {base e n : Nat} {v : Value} {l : List α} (h : w.ownsRow base e k v n (l.flatMap c)) : n = l.length ∧ SeesL c k w v l := by
  have hl : n = l.length := by
    have := h.1
    rw [flat_len hk] at this
    exact (Nat.eq_of_mul_eq_mul_right hk0 this).symm
  refine ⟨hl, ?_⟩
  subst hl
  have h' := h
  rcases h.2 with ⟨rfl, hn⟩ | ⟨g, cap, cur, rfl, hb, hg, hnc, hcm, hcs, htake⟩
  · obtain rfl := List.length_eq_zero_iff.1 hn
    exact SeesL.nil w
  · refine ⟨_, cap, g, 0, rfl, hnc, by unfold maxLen at hcm; omega, (fun e => by cases e), fun _ => rfl, fun t x hx j hj => ?_⟩
    have hu := flat_at hk l t x hx j hj
    rw [← hu]
    have hlt : t * k + j < (l.flatMap c).length := by
      rw [flat_len hk l]
      have ht : t < l.length := (List.getElem?_eq_some_iff.1 hx).1
      have := Nat.mul_le_mul_right k (show t + 1 ≤ l.length from ht)
      rw [Nat.add_mul, Nat.one_mul] at this
      omega
    rw [List.getElem?_eq_getElem hlt]
    have := h'.cells (g := g) rfl (t * k + j) _ (List.getElem?_eq_getElem hlt)
    rw [Nat.zero_add]
    have e : (⟨g, 0, none⟩ : Addr).add (t * k + j) = ⟨g, t * k + j, none⟩ := by unfold Addr.add; split <;> simp_all
    rw [e] at this
    exact this
/-- The first of what is seen, and the rest. -/
theorem SeesL.take {w : World} {ao : Option Addr} {n cap : Nat} {l : List α} (h : SeesL c k w (.slice ao n cap) l) (m : Nat) (hm : m ≤ n) : SeesL c k w (.slice ao m cap) (l.take m) := by
  obtain ⟨ao', cap', gb, ob, hv, h2, h3, h4, h5, h6⟩ := h
  simp only [Value.slice.injEq] at hv
  obtain ⟨rfl, rfl, rfl⟩ := hv
  have hl : (l.take m).length = m := by simp; omega
  refine ⟨ao, cap, gb, ob, by rw [hl], by rw [hl]; omega, by rw [hl]; omega, h4, fun h => h5 (by rw [hl] at h; omega), fun t x hx j hj => ?_⟩
  have ht : t < m := by have := (List.getElem?_eq_some_iff.1 hx).1; rwa [hl] at this
  exact h6 t x (by rw [List.getElem?_take_of_lt ht] at hx; exact hx) j hj
theorem SeesL.drop {w : World} {ao : Option Addr} {n cap : Nat} {l : List α} (h : SeesL c k w (.slice ao n cap) l) (m : Nat) (hm : m ≤ n) : SeesL c k w (.slice (if cap = m then ao else ao.map (·.add (m * k))) (n - m) (cap - m)) (l.drop m) := by
  obtain ⟨ao', cap', gb, ob, hv, h2, h3, h4, h5, h6⟩ := h
  simp only [Value.slice.injEq] at hv
  obtain ⟨rfl, rfl, rfl⟩ := hv
  have hl : (l.drop m).length = l.length - m := by simp
  refine ⟨_, cap - m, gb, ob + m * k, by rw [hl], by rw [hl]; omega, by rw [hl]; omega, fun h => ?_, fun h => ?_, fun t x hx j hj => ?_⟩
  · split at h
    · have := h4 h; omega
    · cases ao with
      | none => have := h4 rfl; omega
      | some a => simp at h
  · rw [hl] at h
    rw [h5 (by omega), if_neg (by omega)]
    simp only [Option.map_some, Addr.add]
    by_cases hz : m * k = 0 <;> simp [hz]
  · rw [List.getElem?_drop] at hx
    have := h6 (m + t) x hx j hj
    rw [Nat.add_mul] at this
    rw [show ob + m * k + t * k + j = ob + (m * k + t * k) + j by omega]
    exact this

theorem grownBy_refl (w : World) (r : Option Nat) : w.grownBy w r := ⟨rfl, rfl, rfl, Nat.le_refl _, fun _ _ _ => rfl⟩
/-- append(s, x...) where s is one's own and x is seen. -/
theorem run_append_L (hk : ∀ x, (c x).length = k) (h1 : ∀ x, ∀ u ∈ c x, u.oneCell' = true) {P : Program} {w : World} (base : Nat) (t ty e : TypeId) (i : TypeInfo) (z : Value) (bytes : Nat) (ht : P.underlying t = some (.slice e)) (hi : P.info? e = some i) (hz : i.zero = some z)
    (hsize : i.size = k) (hby : i.bytes = bytes) (hzs : z.cells.size = k) (hk0 : 0 < k) {v v2 : Value} {n : Nat} {xs : List Value} {l2 : List α} (hown : w.ownsRow base e k v n xs) (hs : SeesL c k w v2 l2)
    (h63 : n + l2.length ≤ maxLen) (hbytes : (n + l2.length) * bytes ≤ 140737488355328) (hbase : base ≤ w.heap.size) :
    ∃ v' w', (Builtin.append_ #[t, t] ty #[v, v2]).run P w = .ok v' w' ∧ w'.ownsRow base e k v' (n + l2.length) (xs ++ l2.flatMap c) ∧ w.grownBy w' v.ownBlock := by
  obtain ⟨ao, cap, gb, ob, rfl, h2, h3, h4, h5, h6⟩ := hs
  cases ao with
  | none =>
    obtain rfl := h4 rfl
    obtain rfl : l2 = [] := List.length_eq_zero_iff.1 (by omega)
    exact ⟨v, w, run_append_owned_none w base t ty e i k ht hi v n xs hown, by simpa using hown, grownBy_refl _ _⟩
  | some ad =>
    obtain ⟨v', w', hr, h7, h8, _⟩ := run_append_own (P := P) w base t ty e i z k bytes ht hi hz hsize hby hzs hk0 v n xs hown ad l2.length cap (l2.flatMap c) (flat_len hk l2) (fun j u hu => by
      have hj : j < l2.length * k := by have := (List.getElem?_eq_some_iff.1 hu).1; rwa [flat_len hk] at this
      have hq : j / k < l2.length := Nat.div_lt_of_lt_mul (by rw [Nat.mul_comm]; exact hj)
      have hm : j % k < k := Nat.mod_lt _ hk0
      have hjk : j / k * k + j % k = j := by rw [Nat.mul_comm]; exact Nat.div_add_mod j k
      obtain rfl := Option.some.inj (h5 (Nat.lt_of_le_of_lt (Nat.zero_le _) hq))
      have e0 : l2[j / k]? = some l2[j / k] := List.getElem?_eq_getElem hq
      have := h6 (j / k) _ e0 (j % k) hm
      rw [← flat_at hk l2 (j / k) _ e0 (j % k) hm, hjk, hu, Nat.add_assoc, hjk] at this
      have ea : (⟨gb, ob, none⟩ : Addr).add j = ⟨gb, ob + j, none⟩ := by unfold Addr.add; split <;> simp_all
      rw [ea]
      exact this) (flat_one h1 l2) h63 hbytes hbase
    exact ⟨v', w', hr, h7, h8⟩
end
theorem info_parts {P : Program} {t : TypeId} {z : Option Value} {s b : Nat} (h : (P.info? t).map (fun i => (i.zero, i.size, i.bytes)) = some (z, s, b)) : ∃ i, P.info? t = some i ∧ i.zero = z ∧ i.size = s ∧ i.bytes = b := by
  cases hi : P.info? t with
  | none => rw [hi] at h; cases h
  | some i =>
    rw [hi] at h
    simp only [Option.map_some, Option.some.injEq, Prod.mk.injEq] at h
    exact ⟨i, rfl, h.1, h.2.1, h.2.2⟩
theorem Try.info37 : (Try.prog.info? 37).map (fun i => (i.zero, i.size, i.bytes)) = some (some (.agg #[.int .i32 0, .int .i64 0]), 2, 16) := by kernel_rfl
theorem append_keys {w : World} {base : Nat} {v v2 : Value} {n : Nat} {l l2 : List Ky} (ty : TypeId) (hown : w.ownsRow base 37 2 v n (l.flatMap kC)) (hs : SeesL kC 2 w v2 l2) (hl : n + l2.length ≤ 8796093022208) (hbase : base ≤ w.heap.size) :
    ∃ v' w', (Builtin.append_ #[24, 24] ty #[v, v2]).run Try.prog w = .ok v' w' ∧ w'.ownsRow base 37 2 v' (n + l2.length) ((l ++ l2).flatMap kC) ∧ w.grownBy w' v.ownBlock := by
  obtain ⟨i, hi, hz, hs1, hb⟩ := info_parts Try.info37
  rw [List.flatMap_append]
  exact run_append_L kC_len kC_one base 24 ty 37 i _ 16 Try.underlying24 hi hz hs1 hb rfl (by decide) hown hs (by unfold maxLen; omega) (by omega) hbase
/-- A slice of one new element. -/
theorem sees_oneK (w : World) (k : Ky) : SeesL kC 2 (w.alloc (.cells #[.int .i32 k.1, .int .i64 k.2] 37)) (.slice (some ⟨w.heap.size, 0, none⟩) 1 1) [k] := by
  refine ⟨_, 1, w.heap.size, 0, rfl, by simp, by simp, (fun h => by cases h), fun _ => rfl, fun t x hx j hj => ?_⟩
  obtain ⟨ht, rfl⟩ := List.getElem?_eq_some_iff.1 hx
  obtain rfl : t = 0 := by simpa using ht
  rw [cell_at (heap_alloc_new w _)]
  rcases (by omega : j = 0 ∨ j = 1) with rfl | rfl <;> rfl
/-- One element's cells. -/
theorem SeesL.key {w : World} {v : Value} {l : List Ky} (h : SeesL kC 2 w v l) : ∃ ao cap gb ob, v = .slice ao l.length cap ∧ l.length ≤ cap ∧ l.length ≤ 9223372036854775807 ∧ (0 < l.length → ao = some ⟨gb, ob, none⟩) ∧ ∀ t, t < l.length → w.cell? ⟨gb, ob + t * 2, none⟩ = some (.int .i32 (l.getD t default).1) ∧ w.cell? ⟨gb, ob + t * 2 + 1, none⟩ = some (.int .i64 (l.getD t default).2) := by
  obtain ⟨ao, cap, gb, ob, h1, h2, h3, h4, h5, h6⟩ := h
  refine ⟨ao, cap, gb, ob, h1, h2, h3, h5, fun t ht => ?_⟩
  have e : l[t]? = some (l.getD t default) := by simp [List.getD, ht]
  exact ⟨h6 t _ e 0 (by omega), h6 t _ e 1 (by omega)⟩
theorem SeesL.pair {w : World} {v : Value} {l : List Pr} (h : SeesL pC 3 w v l) : ∃ ao cap gb ob, v = .slice ao l.length cap ∧ l.length ≤ cap ∧ l.length ≤ 9223372036854775807 ∧ (0 < l.length → ao = some ⟨gb, ob, none⟩) ∧ ∀ t, t < l.length → w.cell? ⟨gb, ob + t * 3, none⟩ = some (.int .i32 (l.getD t default).1.1) ∧ w.cell? ⟨gb, ob + t * 3 + 1, none⟩ = some (.int .i64 (l.getD t default).1.2) ∧ w.cell? ⟨gb, ob + t * 3 + 2, none⟩ = some (.int .i64 (l.getD t default).2) := by
  obtain ⟨ao, cap, gb, ob, h1, h2, h3, h4, h5, h6⟩ := h
  refine ⟨ao, cap, gb, ob, h1, h2, h3, h5, fun t ht => ?_⟩
  have e : l[t]? = some (l.getD t default) := by simp [List.getD, ht]
  exact ⟨h6 t _ e 0 (by omega), h6 t _ e 1 (by omega), h6 t _ e 2 (by omega)⟩
end Go.Proofs.Ytibjhjkeflbghaa

/- Maps whose keys are keys: asked, and a key more. -/
namespace Go.Proofs.Ytibjhjkeflbghaa
open Go.RowKit
open Go.ChangeMaps (setBlock heap_setBlock_same heap_setBlock_other)
set_option maxRecDepth 100000

def keyV (a b : Int) : Value := .agg #[.int .i32 a, .int .i64 b]
theorem laidOutK : laidOutB Try.prog = true := by kernel_rfl
theorem Try.keyType37 : Try.prog.keyType 37 = true := by kernel_rfl
theorem Try.cells37 : Try.prog.cellsOf 37 = 2 := by kernel_rfl
theorem Try.cells2 : Try.prog.cellsOf 2 = 1 := by kernel_rfl
theorem Try.cells21 : Try.prog.cellsOf 21 = 1 := by kernel_rfl
theorem key_law : WideMaps.KeyLaw Try.prog 37 := deep_law_laid laidOutK (m := 2) (by decide) (of_decide_eq_true (by kernel_rfl)) (by kernel_rfl) (by kernel_rfl)
theorem key_fields : (Try.prog.underlying 37).bind (fun d => match d with | .struct fs => some (fs.toList.map fun f => (f.type, f.offset, f.name != "_")) | _ => none) = some [(21, 0, true), (2, 1, true)] := by kernel_rfl
theorem keyOf_two {P : Program} {k e f : TypeId} (hw : (P.underlying k).bind (fun d => match d with | .struct fs => some (fs.toList.map fun f => (f.type, f.offset, f.name != "_")) | _ => none) = some [(e, 0, true), (f, 1, true)])
    (hkt : P.keyType k = true) (hc : P.cellsOf k = 2) (he : P.underlying e = some (.int .i32)) (hce : P.cellsOf e = 1) (hf : P.underlying f = some (.int .i64)) (hcf : P.cellsOf f = 1) (hsz : ∃ m, P.types.size = m + 1) {a b : Int} (ha : (Lit.int .i32 a).wf = true) (hb : (Lit.int .i64 b).wf = true) : ∃ s, keyOf P k (keyV a b) = some s := by
  obtain ⟨m, hm⟩ := hsz
  unfold keyOf
  cases hu : P.underlying k with
  | none => rw [hu] at hw; simp at hw
  | some d =>
    rw [hu] at hw
    cases d with
    | struct fs =>
      obtain ⟨fs⟩ := fs
      simp only [Option.bind_some, Option.some.injEq] at hw
      have hl : fs.length = 2 := by have := congrArg List.length hw; simpa using this
      obtain ⟨f0, f1, rfl⟩ : ∃ x y, fs = [x, y] := by
        match fs, hl with
        | [x, y], _ => exact ⟨x, y, rfl⟩
      simp only [List.map_cons, List.map_nil, List.cons.injEq, Prod.mk.injEq, and_true] at hw
      obtain ⟨⟨t0, o0, n0⟩, t1, o1, n1⟩ := hw
      have hf' : (keyV a b).formed P k = true := by simp [keyV, Value.formed, hu, hc]
      simp only [hkt, hf', Bool.and_self, if_true, hm]
      unfold Program.keyLits
      simp [hu, keyV, Value.cells, hc, n0, n1, t0, t1, o0, o1, hce, hcf, Program.keyLits, he, hf, ha, hb]
    | _ => simp at hw
theorem Try.sizeS : ∃ m, Try.prog.types.size = m + 1 := ⟨Try.prog.types.size - 1, by kernel_rfl⟩
/-- A key that an api.Key can be. -/
def OkK (k : Ky) : Prop := (-2147483648 ≤ k.1 ∧ k.1 ≤ 2147483647) ∧ -9223372036854775808 ≤ k.2 ∧ k.2 ≤ 9223372036854775807
theorem wf32 {a : Int} (h : -2147483648 ≤ a ∧ a ≤ 2147483647) : (Lit.int .i32 a).wf = true := by
  have e1 : IntKind.i32.min = -2147483648 := by decide
  have e2 : IntKind.i32.max = 2147483647 := by decide
  simp only [Lit.wf, e1, e2, Bool.and_eq_true, decide_eq_true_eq]
  exact h
theorem wf64 {a : Int} (h : -9223372036854775808 ≤ a ∧ a ≤ 9223372036854775807) : (Lit.int .i64 a).wf = true := by
  have e1 : IntKind.i64.min = -9223372036854775808 := by decide
  have e2 : IntKind.i64.max = 9223372036854775807 := by decide
  simp only [Lit.wf, e1, e2, Bool.and_eq_true, decide_eq_true_eq]
  exact h
theorem keyOf_key {k : Ky} (h : OkK k) : ∃ s, keyOf Try.prog 37 (keyV k.1 k.2) = some s :=
  keyOf_two key_fields Try.keyType37 Try.cells37 Try.underlying21 Try.cells21 Try.underlying2 Try.cells2 Try.sizeS (wf32 h.1) (wf64 h.2)
theorem keyV_inj {a b : Ky} (h : keyV a.1 a.2 = keyV b.1 b.2) : a = b := by
  simp only [keyV, Value.agg.injEq, Array.mk.injEq, List.cons.injEq, Value.int.injEq, true_and, and_true] at h
  exact Prod.ext h.1 h.2

/-- A map in memory, in the order in which its keys came. -/
def MapAt (w : World) (mb : Nat) (l : List (Ky × Value)) : Prop := ∃ es clock, w.heap[mb]? = some (.map es clock) ∧ es.toList.map (fun e => (e.key, e.val)) = l.map fun q => (keyV q.1.1 q.1.2, q.2)
theorem MapAt.lt {w : World} {mb : Nat} {l : List (Ky × Value)} (h : MapAt w mb l) : mb < w.heap.size := by
  obtain ⟨es, c, h, _⟩ := h
  exact (Array.getElem?_eq_some_iff.1 h).1
theorem MapAt.keep {w w' : World} {mb : Nat} {l : List (Ky × Value)} (h : MapAt w mb l) (hk : w'.heap[mb]? = w.heap[mb]?) : MapAt w' mb l := by
  obtain ⟨es, c, h1, h2⟩ := h
  exact ⟨es, c, hk.trans h1, h2⟩
theorem MapAt.below {w w' : World} {mb : Nat} {l : List (Ky × Value)} (h : MapAt w mb l) (hb : Below w.heap.size w w') : MapAt w' mb l := h.keep (hb.block _ h.lt)
/-- No row of cells is the map. -/
theorem MapAt.apart {w : World} {mb g : Nat} {l : List (Ky × Value)} (h : MapAt w mb l) {cur : Array Value} {T : TypeId} {m : Nat × Nat} (hg : w.heap[g]? = some (.cells cur T m)) : g ≠ mb := fun e => by
  obtain ⟨es, c, h1, _⟩ := h
  rw [e, h1] at hg
  cases hg
theorem MapAt.ents {w : World} {mb : Nat} {l : List (Ky × Value)} (h : MapAt w mb l) : ∃ es clock, w.heap[mb]? = some (.map es clock) ∧ es.toList.map (fun e => (e.key, e.val)) = (l.map fun q => (keyV q.1.1 q.1.2, q.2)) ∧ (∀ e ∈ es.toList, ∃ q ∈ l, e.key = keyV q.1.1 q.1.2 ∧ e.val = q.2) ∧ ∀ q ∈ l, ∃ e ∈ es.toList, e.key = keyV q.1.1 q.1.2 := by
  obtain ⟨es, clock, hm, hes⟩ := h
  refine ⟨es, clock, hm, hes, fun e he => ?_, fun q hq => ?_⟩
  · have : (e.key, e.val) ∈ es.toList.map (fun e => (e.key, e.val)) := List.mem_map.2 ⟨e, he, rfl⟩
    rw [hes] at this
    obtain ⟨q, hq, e1⟩ := List.mem_map.1 this
    simp only [Prod.mk.injEq] at e1
    exact ⟨q, hq, e1.1.symm, e1.2.symm⟩
  · have : (keyV q.1.1 q.1.2, q.2) ∈ es.toList.map (fun e => (e.key, e.val)) := by rw [hes]; exact List.mem_map.2 ⟨q, hq, rfl⟩
    obtain ⟨e, he, e1⟩ := List.mem_map.1 this
    simp only [Prod.mk.injEq] at e1
    exact ⟨e, he, e1.1⟩
section
variable {w : World} {mb : Nat} {l : List (Ky × Value)} {T E : TypeId}
/-- A key that isn't there. -/
theorem look_no (hT : Try.prog.underlying T = some (.map 37 E)) {z : Value} (hz : ∀ w, (zeroValue E).run Try.prog w = .ok z w) (h : MapAt w mb l) (ho : ∀ q ∈ l, OkK q.1) {k : Ky} (hk : OkK k) (hno : ∀ q ∈ l, q.1 ≠ k) :
    (Instr.lookup T (.map (some mb)) (keyV k.1 k.2) true).run Try.prog w = .ok (.tuple #[z, .bool false]) w := by
  obtain ⟨es, clock, hm, hes, hent, hrev⟩ := h.ents
  obtain ⟨s, hs⟩ := keyOf_key hk
  have hall : ∀ e ∈ es.toList, ∃ l, keyOf Try.prog 37 e.key = some l := fun e he => by
    obtain ⟨q, hq, e1, _⟩ := hent e he
    rw [e1]
    exact keyOf_key (ho q hq)
  rcases key_law.find w hs es.toList hall with ⟨h1, _⟩ | ⟨j, e0, _, h2, h3⟩
  · simp [Instr.lookup, run_underlying hT, MapKept.run_getObj_map hm, key_law.check w _ hs, h1, Result.andThen, hz]
  · obtain ⟨q, hq, e1, _⟩ := hent e0 (List.mem_of_getElem? h2)
    exact absurd (keyV_inj (e1.symm.trans h3)) (hno q hq)
/-- A key that is there. -/
theorem look_has (hT : Try.prog.underlying T = some (.map 37 E)) (h : MapAt w mb l) (ho : ∀ q ∈ l, OkK q.1) (hn : (l.map (·.1)).Nodup) {k : Ky} {u : Value} (hin : (k, u) ∈ l) :
    (Instr.lookup T (.map (some mb)) (keyV k.1 k.2) true).run Try.prog w = .ok (.tuple #[u, .bool true]) w := by
  obtain ⟨es, clock, hm, hes, hent, hrev⟩ := h.ents
  obtain ⟨s, hs⟩ := keyOf_key (ho _ hin)
  have hall : ∀ e ∈ es.toList, ∃ l, keyOf Try.prog 37 e.key = some l := fun e he => by
    obtain ⟨q, hq, e1, _⟩ := hent e he
    rw [e1]
    exact keyOf_key (ho q hq)
  rcases key_law.find w hs es.toList hall with ⟨_, h2⟩ | ⟨j, e0, h1, h2, h3⟩
  · obtain ⟨e, he, e1⟩ := hrev _ hin
    exact absurd e1 (h2 e he)
  · obtain ⟨q, hq, e1, e2⟩ := hent e0 (List.mem_of_getElem? h2)
    have e3 : q.1 = k := keyV_inj (e1.symm.trans h3)
    have e4 : q = (k, u) := by
      obtain ⟨i, hi, rfl⟩ := List.getElem_of_mem hq
      obtain ⟨i', hi', e5⟩ := List.getElem_of_mem hin
      have hpw := List.pairwise_iff_getElem.1 hn
      rcases Nat.lt_trichotomy i i' with c | c | c
      · have := hpw i i' (by simpa using hi) (by simpa using hi') c
        simp only [List.getElem_map, e5] at this
        exact absurd e3 this
      · subst c; exact e5
      · have := hpw i' i (by simpa using hi') (by simpa using hi) c
        simp only [List.getElem_map, e5] at this
        exact absurd e3.symm this
    rw [e4] at e2
    simp [Instr.lookup, run_underlying hT, MapKept.run_getObj_map hm, key_law.check w _ hs, h1, Result.andThen, e2]
/-- A key more. -/
theorem put_new (hT : Try.prog.underlying T = some (.map 37 E)) (h : MapAt w mb l) (ho : ∀ q ∈ l, OkK q.1) {k : Ky} (hk : OkK k) (hno : ∀ q ∈ l, q.1 ≠ k) (u : Value) :
    ∃ y, (Instr.mapUpdate T (.map (some mb)) (keyV k.1 k.2) u).run Try.prog w = .ok () y ∧ MapAt y mb (l ++ [(k, u)]) ∧ (∀ j, j ≠ mb → y.heap[j]? = w.heap[j]?) ∧ y.heap.size = w.heap.size ∧ y.os = w.os ∧ y.tape = w.tape ∧ y.output = w.output := by
  obtain ⟨es, clock, hm, hes, hent, hrev⟩ := h.ents
  obtain ⟨s, hs⟩ := keyOf_key hk
  have hall : ∀ e ∈ es.toList, ∃ l, keyOf Try.prog 37 e.key = some l := fun e he => by
    obtain ⟨q, hq, e1, _⟩ := hent e he
    rw [e1]
    exact keyOf_key (ho q hq)
  rcases key_law.find w hs es.toList hall with ⟨h1, _⟩ | ⟨j, e0, _, h2, h3⟩
  · refine ⟨setBlock w mb (.map (es.push ⟨keyV k.1 k.2, u, clock⟩) (clock + 1)), ?_, ⟨_, _, heap_setBlock_same hm _, ?_⟩, fun j hj => heap_setBlock_other hm _ hj, by simp [setBlock], rfl, rfl, rfl⟩
    · simp [Instr.mapUpdate, run_underlying hT, MapKept.run_getObj_map hm, key_law.check w false hs, h1, MapKept.run_setObj_map _ hm, Result.andThen, setBlock]
    · rw [Array.toList_push, List.map_append, hes, List.map_append]
      rfl
  · obtain ⟨q, hq, e1, _⟩ := hent e0 (List.mem_of_getElem? h2)
    exact absurd (keyV_inj (e1.symm.trans h3)) (hno q hq)
end
end Go.Proofs.Ytibjhjkeflbghaa
