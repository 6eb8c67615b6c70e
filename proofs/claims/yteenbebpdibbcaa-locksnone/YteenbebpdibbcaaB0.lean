/- Lists of keys and of pairs in memory: seen, and one's own. -/
import Derived.Test.YteenbebpdibbcaaA1
import Derived.Laws.OwnMore
namespace Go.Proofs.Yteenbebpdibbcaa
open Go.RowKit
set_option maxRecDepth 100000

abbrev Ky := Int × Int
abbrev Pr := (Int × Int) × Int
def kC (k : Ky) : List Value := [.int .i32 k.1, .int .i64 k.2]
def pC (p : Pr) : List Value := [.int .i32 p.1.1, .int .i64 p.1.2, .int .i64 p.2]
theorem kC_len (k : Ky) : (kC k).length = 2 := rfl
theorem pC_len (p : Pr) : (pC p).length = 3 := rfl
theorem kC_one (k : Ky) : ∀ u ∈ kC k, u.oneCell' = true := by
  intro u hu
  simp only [kC, List.mem_cons, List.not_mem_nil, or_false] at hu
  rcases hu with rfl | rfl <;> rfl
theorem pC_one (k : Pr) : ∀ u ∈ pC k, u.oneCell' = true := by
  intro u hu
  simp only [pC, List.mem_cons, List.not_mem_nil, or_false] at hu
  rcases hu with rfl | rfl | rfl <;> rfl

section
variable {α : Type} {c : α → List Value} {k : Nat}
theorem flat_len (hk : ∀ x, (c x).length = k) : ∀ l : List α, (l.flatMap c).length = l.length * k
  | [] => by simp
  | p :: r => by rw [List.flatMap_cons, List.length_append, flat_len hk r, hk, List.length_cons, Nat.add_mul]; omega
theorem flat_at (hk : ∀ x, (c x).length = k) : ∀ (l : List α) (t : Nat) (p : α), l[t]? = some p → ∀ j, j < k → (l.flatMap c)[t * k + j]? = (c p)[j]?
  | [], t, p, h, j, hj => by simp at h
  | q :: r, 0, p, h, j, hj => by
    obtain rfl := Option.some.inj h
    rw [List.flatMap_cons, Nat.zero_mul, Nat.zero_add, List.getElem?_append_left (by rw [hk]; exact hj)]
  | q :: r, t + 1, p, h, j, hj => by
    rw [List.flatMap_cons, List.getElem?_append_right (by rw [hk, Nat.add_mul]; omega), hk, show (t + 1) * k + j - k = t * k + j by rw [Nat.add_mul]; omega]
    exact flat_at hk r t p (by simpa using h) j hj
theorem flat_one (h1 : ∀ x, ∀ u ∈ c x, u.oneCell' = true) (l : List α) : ∀ u ∈ l.flatMap c, u.oneCell' = true := fun u hu => by
  obtain ⟨x, _, hx⟩ := List.mem_flatMap.1 hu
  exact h1 x u hx

/-- Elements of k cells each, seen under a slice. -/
def SeesL (c : α → List Value) (k : Nat) (w : World) (v : Value) (l : List α) : Prop :=
  ∃ ao cap gb ob, v = .slice ao l.length cap ∧ l.length ≤ cap ∧ l.length ≤ 9223372036854775807 ∧ (ao = none → cap = 0) ∧ (0 < l.length → ao = some ⟨gb, ob, none⟩) ∧ ∀ (t : Nat) (x : α), l[t]? = some x → ∀ j, j < k → w.cell? ⟨gb, ob + t * k + j, none⟩ = (c x)[j]?
theorem SeesL.shape {w : World} {v : Value} {l : List α} (h : SeesL c k w v l) : ∃ ao cap, v = .slice ao l.length cap := by
  obtain ⟨ao, cap, _, _, h, _⟩ := h
  exact ⟨ao, cap, h⟩
theorem SeesL.keep (hk : ∀ x, (c x).length = k) {w w' : World} {v : Value} {l : List α} (h : SeesL c k w v l) (hc : ∀ p x, w.cell? p = some x → w'.cell? p = some x) : SeesL c k w' v l := by
  obtain ⟨ao, cap, gb, ob, h1, h2, h3, h4, h5, h6⟩ := h
  refine ⟨ao, cap, gb, ob, h1, h2, h3, h4, h5, fun t x hx j hj => ?_⟩
  have := h6 t x hx j hj
  rw [List.getElem?_eq_getElem (by rw [hk]; exact hj)] at this ⊢
  exact hc _ _ this
theorem SeesL.below (hk : ∀ x, (c x).length = k) {w w' : World} {v : Value} {l : List α} (h : SeesL c k w v l) (hb : Below w.heap.size w w') : SeesL c k w' v l :=
  h.keep hk fun p _ hp => (hb.cell (World.block_lt_of_cell? w p hp)).trans hp
theorem SeesL.nil (w : World) : SeesL c k w (.slice none 0 0) [] := ⟨none, 0, 0, 0, rfl, Nat.le_refl _, by simp, fun _ => rfl, fun h => absurd h (by simp), fun t x h => by simp at h⟩
/-- What is one's own is seen. -/
theorem own_sees (hk : ∀ x, (c x).length = k) (hk0 : 0 < k) {w : World} {base e n : Nat} {v : Value} {l : List α} (h : w.ownsRow base e k v n (l.flatMap c)) : n = l.length ∧ SeesL c k w v l := by
  have hl : n = l.length := by
    have := h.1
    rw [flat_len hk] at this
    exact (Nat.eq_of_mul_eq_mul_right hk0 this).symm
  refine ⟨hl, ?_⟩
  subst hl
  have h' := h
  rcases h.2 with ⟨rfl, hn⟩ | ⟨g, cap, cur, rfl, hb, hg, hnc, hcm, hcs, htake⟩
  · obtain rfl := List.length_eq_zero_iff.1 hn
    exact SeesL.nil w
  · refine ⟨_, cap, g, 0, rfl, hnc, by unfold maxLen at hcm; omega, (fun e => by cases e), fun _ => rfl, fun t x hx j hj => ?_⟩
    have hu := flat_at hk l t x hx j hj
    rw [← hu]
    have hlt : t * k + j < (l.flatMap c).length := by
      rw [flat_len hk l]
      have ht : t < l.length := (List.getElem?_eq_some_iff.1 hx).1
      have := Nat.mul_le_mul_right k (show t + 1 ≤ l.length from ht)
      rw [Nat.add_mul, Nat.one_mul] at this
      omega
    rw [List.getElem?_eq_getElem hlt]
    have := h'.cells (g := g) rfl (t * k + j) _ (List.getElem?_eq_getElem hlt)
    rw [Nat.zero_add]
    have e : (⟨g, 0, none⟩ : Addr).add (t * k + j) = ⟨g, t * k + j, none⟩ := by unfold Addr.add; split <;> simp_all
    rw [e] at this
    exact this
/-- The first of what is seen, and the rest. -/
theorem SeesL.take {w : World} {ao : Option Addr} {n cap : Nat} {l : List α} (h : SeesL c k w (.slice ao n cap) l) (m : Nat) (hm : m ≤ n) : SeesL c k w (.slice ao m cap) (l.take m) := by
  obtain ⟨ao', cap', gb, ob, hv, h2, h3, h4, h5, h6⟩ := h
  simp only [Value.slice.injEq] at hv
  obtain ⟨rfl, rfl, rfl⟩ := hv
  have hl : (l.take m).length = m := by simp; omega
  refine ⟨ao, cap, gb, ob, by rw [hl], by rw [hl]; omega, by rw [hl]; omega, h4, fun h => h5 (by rw [hl] at h; omega), fun t x hx j hj => ?_⟩
  have ht : t < m := by have := (List.getElem?_eq_some_iff.1 hx).1; rwa [hl] at this
  exact h6 t x (by rw [List.getElem?_take_of_lt ht] at hx; exact hx) j hj
theorem SeesL.drop {w : World} {ao : Option Addr} {n cap : Nat} {l : List α} (h : SeesL c k w (.slice ao n cap) l) (m : Nat) (hm : m ≤ n) : SeesL c k w (.slice (if cap = m then ao else ao.map (·.add (m * k))) (n - m) (cap - m)) (l.drop m) := by
  obtain ⟨ao', cap', gb, ob, hv, h2, h3, h4, h5, h6⟩ := h
  simp only [Value.slice.injEq] at hv
  obtain ⟨rfl, rfl, rfl⟩ := hv
  have hl : (l.drop m).length = l.length - m := by simp
  refine ⟨_, cap - m, gb, ob + m * k, by rw [hl], by rw [hl]; omega, by rw [hl]; omega, fun h => ?_, fun h => ?_, fun t x hx j hj => ?_⟩
  · split at h
    · have := h4 h; omega
    · cases ao with
      | none => have := h4 rfl; omega
      | some a => simp at h
  · rw [hl] at h
    rw [h5 (by omega), if_neg (by omega)]
    simp only [Option.map_some, Addr.add]
    by_cases hz : m * k = 0 <;> simp [hz]
  · rw [List.getElem?_drop] at hx
    have := h6 (m + t) x hx j hj
    rw [Nat.add_mul] at this
    rw [show ob + m * k + t * k + j = ob + (m * k + t * k) + j by omega]
    exact this

theorem grownBy_refl (w : World) (r : Option Nat) : w.grownBy w r := ⟨rfl, rfl, rfl, Nat.le_refl _, fun _ _ _ => rfl⟩
/-- append(s, x...) where s is one's own and x is seen. -/
theorem run_append_L (hk : ∀ x, (c x).length = k) (h1 : ∀ x, ∀ u ∈ c x, u.oneCell' = true) {P : Program} {w : World} (base : Nat) (t ty e : TypeId) (i : TypeInfo) (z : Value) (bytes : Nat) (ht : P.underlying t = some (.slice e)) (hi : P.info? e = some i) (hz : i.zero = some z)
    (hsize : i.size = k) (hby : i.bytes = bytes) (hzs : z.cells.size = k) (hk0 : 0 < k) {v v2 : Value} {n : Nat} {xs : List Value} {l2 : List α} (hown : w.ownsRow base e k v n xs) (hs : SeesL c k w v2 l2)
    (h63 : n + l2.length ≤ maxLen) (hbytes : (n + l2.length) * bytes ≤ 140737488355328) (hbase : base ≤ w.heap.size) :
    ∃ v' w', (Builtin.append_ #[t, t] ty #[v, v2]).run P w = .ok v' w' ∧ w'.ownsRow base e k v' (n + l2.length) (xs ++ l2.flatMap c) ∧ w.grownBy w' v.ownBlock := by
  obtain ⟨ao, cap, gb, ob, rfl, h2, h3, h4, h5, h6⟩ := hs
  cases ao with
  | none =>
    obtain rfl := h4 rfl
    obtain rfl : l2 = [] := List.length_eq_zero_iff.1 (by omega)
    exact ⟨v, w, run_append_owned_none w base t ty e i k ht hi v n xs hown, by simpa using hown, grownBy_refl _ _⟩
  | some ad =>
    obtain ⟨v', w', hr, h7, h8, _⟩ := run_append_own (P := P) w base t ty e i z k bytes ht hi hz hsize hby hzs hk0 v n xs hown ad l2.length cap (l2.flatMap c) (flat_len hk l2) (fun j u hu => by
      have hj : j < l2.length * k := by have := (List.getElem?_eq_some_iff.1 hu).1; rwa [flat_len hk] at this
      have hq : j / k < l2.length := Nat.div_lt_of_lt_mul (by rw [Nat.mul_comm]; exact hj)
      have hm : j % k < k := Nat.mod_lt _ hk0
      have hjk : j / k * k + j % k = j := by rw [Nat.mul_comm]; exact Nat.div_add_mod j k
      obtain rfl := Option.some.inj (h5 (Nat.lt_of_le_of_lt (Nat.zero_le _) hq))
      have e0 : l2[j / k]? = some l2[j / k] := List.getElem?_eq_getElem hq
      have := h6 (j / k) _ e0 (j % k) hm
      rw [← flat_at hk l2 (j / k) _ e0 (j % k) hm, hjk, hu, Nat.add_assoc, hjk] at this
      have ea : (⟨gb, ob, none⟩ : Addr).add j = ⟨gb, ob + j, none⟩ := by unfold Addr.add; split <;> simp_all
      rw [ea]
      exact this) (flat_one h1 l2) h63 hbytes hbase
    exact ⟨v', w', hr, h7, h8⟩
end
theorem info_parts {P : Program} {t : TypeId} {z : Option Value} {s b : Nat} (h : (P.info? t).map (fun i => (i.zero, i.size, i.bytes)) = some (z, s, b)) : ∃ i, P.info? t = some i ∧ i.zero = z ∧ i.size = s ∧ i.bytes = b := by
  cases hi : P.info? t with
  | none => rw [hi] at h; cases h
  | some i =>
    rw [hi] at h
    simp only [Option.map_some, Option.some.injEq, Prod.mk.injEq] at h
    exact ⟨i, rfl, h.1, h.2.1, h.2.2⟩
theorem Try.info45 : (Try.prog.info? 45).map (fun i => (i.zero, i.size, i.bytes)) = some (some (.agg #[.int .i32 0, .int .i64 0]), 2, 16) := by kernel_rfl
theorem append_keys {w : World} {base : Nat} {v v2 : Value} {n : Nat} {l l2 : List Ky} (ty : TypeId) (hown : w.ownsRow base 45 2 v n (l.flatMap kC)) (hs : SeesL kC 2 w v2 l2) (hl : n + l2.length ≤ 8796093022208) (hbase : base ≤ w.heap.size) :
    ∃ v' w', (Builtin.append_ #[42, 42] ty #[v, v2]).run Try.prog w = .ok v' w' ∧ w'.ownsRow base 45 2 v' (n + l2.length) ((l ++ l2).flatMap kC) ∧ w.grownBy w' v.ownBlock := by
  obtain ⟨i, hi, hz, hs1, hb⟩ := info_parts Try.info45
  rw [List.flatMap_append]
  exact run_append_L kC_len kC_one base 42 ty 45 i _ 16 Try.underlying42 hi hz hs1 hb rfl (by decide) hown hs (by unfold maxLen; omega) (by omega) hbase
/-- A slice of one new element. -/
theorem sees_oneK (w : World) (k : Ky) : SeesL kC 2 (w.alloc (.cells #[.int .i32 k.1, .int .i64 k.2] 45)) (.slice (some ⟨w.heap.size, 0, none⟩) 1 1) [k] := by
  refine ⟨_, 1, w.heap.size, 0, rfl, by simp, by simp, (fun h => by cases h), fun _ => rfl, fun t x hx j hj => ?_⟩
  obtain ⟨ht, rfl⟩ := List.getElem?_eq_some_iff.1 hx
  obtain rfl : t = 0 := by simpa using ht
  rw [cell_at (heap_alloc_new w _)]
  rcases (by omega : j = 0 ∨ j = 1) with rfl | rfl <;> rfl
/-- One element's cells. -/
theorem SeesL.key {w : World} {v : Value} {l : List Ky} (h : SeesL kC 2 w v l) : ∃ ao cap gb ob, v = .slice ao l.length cap ∧ l.length ≤ cap ∧ l.length ≤ 9223372036854775807 ∧ (0 < l.length → ao = some ⟨gb, ob, none⟩) ∧ ∀ t, t < l.length → w.cell? ⟨gb, ob + t * 2, none⟩ = some (.int .i32 (l.getD t default).1) ∧ w.cell? ⟨gb, ob + t * 2 + 1, none⟩ = some (.int .i64 (l.getD t default).2) := by
  obtain ⟨ao, cap, gb, ob, h1, h2, h3, h4, h5, h6⟩ := h
  refine ⟨ao, cap, gb, ob, h1, h2, h3, h5, fun t ht => ?_⟩
  have e : l[t]? = some (l.getD t default) := by simp [List.getD, ht]
  exact ⟨h6 t _ e 0 (by omega), h6 t _ e 1 (by omega)⟩
theorem SeesL.pair {w : World} {v : Value} {l : List Pr} (h : SeesL pC 3 w v l) : ∃ ao cap gb ob, v = .slice ao l.length cap ∧ l.length ≤ cap ∧ l.length ≤ 9223372036854775807 ∧ (0 < l.length → ao = some ⟨gb, ob, none⟩) ∧ ∀ t, t < l.length → w.cell? ⟨gb, ob + t * 3, none⟩ = some (.int .i32 (l.getD t default).1.1) ∧ w.cell? ⟨gb, ob + t * 3 + 1, none⟩ = some (.int .i64 (l.getD t default).1.2) ∧ w.cell? ⟨gb, ob + t * 3 + 2, none⟩ = some (.int .i64 (l.getD t default).2) := by
  obtain ⟨ao, cap, gb, ob, h1, h2, h3, h4, h5, h6⟩ := h
  refine ⟨ao, cap, gb, ob, h1, h2, h3, h5, fun t ht => ?_⟩
  have e : l[t]? = some (l.getD t default) := by simp [List.getD, ht]
  exact ⟨h6 t _ e 0 (by omega), h6 t _ e 1 (by omega), h6 t _ e 2 (by omega)⟩
end Go.Proofs.Yteenbebpdibbcaa
