/- Several texts as one. -/
import Derived.Test.YtldapckooohigaaDoorProg
import Derived.WalkKit
import Derived.Laws.OwnMore
import Derived.WalkSpells
import Derived.WalkLawsBesides
import Derived.Laws.AppendOwnNone
import Derived.Laws.IdiomStrings
import Derived.Deep.RegionHeld3
import Derived.Sort.Grow

/- Facts kept from the walk; worlds that grow; cells of blocks. -/
namespace Go.Proofs.YtldapckooohigaaDoor
open Go.RowKit
set_option maxRecDepth 100000

theorem hide {p : Prop} (h : p) : Hid p := h
theorem unhide {p : Prop} (h : Hid p) : p := h
theorem retBool {a b : Bool} (h : a = b) : Ending.returned (.bool a) = .returned (.bool b) := by rw [h]
theorem retInt {k : IntKind} {a b : Int} (h : a = b) : Ending.returned (.int k a) = .returned (.int k b) := by rw [h]
theorem wrap_i64 (x : Int) (h1 : -9223372036854775808 ≤ x) (h2 : x ≤ 9223372036854775807) : IntKind.i64.wrap x = x := by
  simp [IntKind.wrap, IntKind.signed, IntKind.bits]
  omega

/-- Nothing has turned: draws and new blocks alone. -/
def Grew (w w' : World) : Prop := ∃ q os, w' = Sort.grow (w.drewN q) os
theorem grew_refl (w : World) : Grew w w := ⟨0, #[], by simp [Sort.grow, World.drewN]⟩
theorem grew_alloc {a w : World} (h : Grew a w) (o : Obj) : Grew a (w.alloc o) := by
  obtain ⟨q, os, rfl⟩ := h
  refine ⟨q, os.push o, ?_⟩
  simp [Sort.grow, World.alloc]
theorem grew_drew {a w : World} (h : Grew a w) : Grew a w.drew := by
  obtain ⟨q, os, rfl⟩ := h
  exact ⟨q + 1, os, by simp [Sort.grow, World.drew, World.drewN, Nat.add_assoc]⟩
theorem grew_trans {a b c : World} (h : Grew a b) (k : Grew b c) : Grew a c := by
  obtain ⟨q, os, rfl⟩ := h
  obtain ⟨q', os', rfl⟩ := k
  exact ⟨q + q', os ++ os', by simp [Sort.grow, World.drewN, Nat.add_assoc]⟩
theorem Grew.below {w w' : World} (h : Grew w w') : Below w.heap.size w w' := by
  obtain ⟨q, os, rfl⟩ := h
  refine ⟨rfl, rfl, rfl, by simp [Sort.grow, World.drewN], fun k hk => ?_⟩
  simp only [Sort.grow, World.drewN]
  rw [Array.getElem?_append_left hk]

theorem cell_at {w : World} {b o : Nat} {cs : Array Value} {T : TypeId} (h : w.heap[b]? = some (.cells cs T)) : w.cell? ⟨b, o, none⟩ = cs[o]? := cell_of_row w b o cs T (0, 0) h
theorem below_box {w : World} (o : Obj) : Below w.heap.size w (w.alloc o) := (Below.refl _ _).alloc (Nat.le_refl _) _
theorem own_below {w w' : World} {base e size : Nat} {v : Value} {n : Nat} {xs : List Value} (h : w.ownsRow base e size v n xs) (hb : Below w.heap.size w w') : w'.ownsRow base e size v n xs := by
  refine ⟨h.1, ?_⟩
  rcases h.2 with hn | ⟨g, cap, cur, hv, hg, hh, r⟩
  · exact .inl hn
  · exact .inr ⟨g, cap, cur, hv, hg, (hb.block g (Array.getElem?_eq_some_iff.1 hh).1).trans hh, r⟩
theorem own_mono {w : World} {base base' : Nat} {e size : Nat} {v : Value} {n : Nat} {xs : List Value} (h : w.ownsRow base e size v n xs) (hb : base' ≤ base) : w.ownsRow base' e size v n xs := by
  refine ⟨h.1, ?_⟩
  rcases h.2 with hn | ⟨g, cap, cur, hv, hg, rest⟩
  · exact .inl hn
  · exact .inr ⟨g, cap, cur, hv, Nat.le_trans hb hg, rest⟩
theorem own_shape {w : World} {base e size : Nat} {v : Value} {n : Nat} {xs : List Value} (h : w.ownsRow base e size v n xs) : ∃ ao cap, v = .slice ao n cap := by
  rcases h.2 with ⟨rfl, rfl⟩ | ⟨g, cap, cur, rfl, _⟩
  · exact ⟨none, 0, rfl⟩
  · exact ⟨_, cap, rfl⟩
theorem own_nil (w : World) (base e size : Nat) : w.ownsRow base e size (.slice none 0 0) 0 [] := ⟨by simp, .inl ⟨rfl, rfl⟩⟩
theorem list_alike {α : Type} {xs ys : List α} {d : α} (hl : xs.length = ys.length) (h : ∀ t, t < xs.length → xs.getD t d = ys.getD t d) : xs = ys := by
  refine List.ext_getElem hl fun i h1 h2 => ?_
  have := h i h1
  simpa [List.getD, h1, h2] using this
theorem append_upon {P : Program} {o : Oper} {a : Act} {w w' : World} {K : Act → World → Prop} {Q : Exit → Act → World → Prop} {s x : Operand} {t : TypeId} {v sv v' : Value}
    (ho : o.op = .call { callee := .builtin .append, args := #[s, x], argTypes := #[t, t] }) (hs : a.eval s = v) (hx : a.eval x = sv) (hr : (Builtin.append_ #[t, t] o.type #[v, sv]).run P w = .ok v' w') (h : K (a.put o.dst v') w') : Oper.wp P o a w K Q := by
  unfold Oper.wp
  simp [execOp, ho, resolve, invoke, builtin, hs, hx, hr, Result.andThen]
  exact h
theorem wpList_append_wanted {P : Program} {w w' : World} {ops : Array Oper} {rest : List Oper} {o : Oper} {a : Act} {Q : Exit → Act → World → Prop} {v sv v' : Value} (hw : Region.wanted o (yielded ops a.tmps) = true) (s x : Operand) (t : TypeId)
    (ho : o.op = .call { callee := .builtin .append, args := #[s, x], argTypes := #[t, t] }) (hs : a.eval s = v) (hx : a.eval x = sv) (hr : (Builtin.append_ #[t, t] o.type #[v, sv]).run P w = .ok v' w') (h : wpList P ops Q rest (a.put o.dst v') w') : wpList P ops Q (o :: rest) a w := by
  unfold wpList
  rw [if_pos hw]
  exact Or.inl (append_upon ho hs hx hr h)
section
variable {α : Type} {c : α → List Value} {k : Nat}
theorem flat_len (hk : ∀ x, (c x).length = k) : ∀ l : List α, (l.flatMap c).length = l.length * k
  | [] => by simp
  | p :: r => by rw [List.flatMap_cons, List.length_append, flat_len hk r, hk, List.length_cons, Nat.add_mul]; omega
theorem flat_at (hk : ∀ x, (c x).length = k) : ∀ (l : List α) (t : Nat) (p : α), l[t]? = some p → ∀ j, j < k → (l.flatMap c)[t * k + j]? = (c p)[j]?
  | [], t, p, h, j, hj => by simp at h
  | q :: r, 0, p, h, j, hj => by
    obtain rfl := Option.some.inj h
    rw [List.flatMap_cons, Nat.zero_mul, Nat.zero_add, List.getElem?_append_left (by rw [hk]; exact hj)]
  | q :: r, t + 1, p, h, j, hj => by
    rw [List.flatMap_cons, List.getElem?_append_right (by rw [hk, Nat.add_mul]; omega), hk, show (t + 1) * k + j - k = t * k + j by rw [Nat.add_mul]; omega]
    exact flat_at hk r t p (by simpa using h) j hj
theorem flat_one (h1 : ∀ x, ∀ u ∈ c x, u.oneCell' = true) (l : List α) : ∀ u ∈ l.flatMap c, u.oneCell' = true := fun u hu => by
  obtain ⟨x, _, hx⟩ := List.mem_flatMap.1 hu
  exact h1 x u hx

/-- Elements of k cells each, seen under a slice. -/
def SeesL (c : α → List Value) (k : Nat) (w : World) (v : Value) (l : List α) : Prop :=
  ∃ ao cap gb ob, v = .slice ao l.length cap ∧ l.length ≤ cap ∧ l.length ≤ 9223372036854775807 ∧ (ao = none → cap = 0) ∧ (0 < l.length → ao = some ⟨gb, ob, none⟩) ∧ ∀ (t : Nat) (x : α), l[t]? = some x → ∀ j, j < k → w.cell? ⟨gb, ob + t * k + j, none⟩ = (c x)[j]?
theorem SeesL.shape {w : World} {v : Value} {l : List α} (h : SeesL c k w v l) : ∃ ao cap, v = .slice ao l.length cap := by
  obtain ⟨ao, cap, _, _, h, _⟩ := h
  exact ⟨ao, cap, h⟩
theorem SeesL.keep (hk : ∀ x, (c x).length = k) {w w' : World} {v : Value} {l : List α} (h : SeesL c k w v l) (hc : ∀ p x, w.cell? p = some x → w'.cell? p = some x) : SeesL c k w' v l := by
  obtain ⟨ao, cap, gb, ob, h1, h2, h3, h4, h5, h6⟩ := h
  refine ⟨ao, cap, gb, ob, h1, h2, h3, h4, h5, fun t x hx j hj => ?_⟩
  have := h6 t x hx j hj
  rw [List.getElem?_eq_getElem (by rw [hk]; exact hj)] at this ⊢
  exact hc _ _ this
theorem SeesL.below (hk : ∀ x, (c x).length = k) {w w' : World} {v : Value} {l : List α} (h : SeesL c k w v l) (hb : Below w.heap.size w w') : SeesL c k w' v l :=
  h.keep hk fun p _ hp => (hb.cell (World.block_lt_of_cell? w p hp)).trans hp
theorem SeesL.nil (w : World) : SeesL c k w (.slice none 0 0) [] := ⟨none, 0, 0, 0, rfl, Nat.le_refl _, by simp, fun _ => rfl, fun h => absurd h (by simp), fun t x h => by simp at h⟩
/-- What is one's own is seen. -/
theorem own_sees (hk : ∀ x, (c x).length = k) (hk0 : 0 < k) {w : World} {base e n : Nat} {v : Value} {l : List α} (h : w.ownsRow base e k v n (l.flatMap c)) : n = l.length ∧ SeesL c k w v l := by
  have hl : n = l.length := by
    have := h.1
    rw [flat_len hk] at this
    exact (Nat.eq_of_mul_eq_mul_right hk0 this).symm
  refine ⟨hl, ?_⟩
  subst hl
  have h' := h
  rcases h.2 with ⟨rfl, hn⟩ | ⟨g, cap, cur, rfl, hb, hg, hnc, hcm, hcs, htake⟩
  · obtain rfl := List.length_eq_zero_iff.1 hn
    exact SeesL.nil w
  · refine ⟨_, cap, g, 0, rfl, hnc, by unfold maxLen at hcm; omega, (fun e => by cases e), fun _ => rfl, fun t x hx j hj => ?_⟩
    have hu := flat_at hk l t x hx j hj
    rw [← hu]
    have hlt : t * k + j < (l.flatMap c).length := by
      rw [flat_len hk l]
      have ht : t < l.length := (List.getElem?_eq_some_iff.1 hx).1
      have := Nat.mul_le_mul_right k (show t + 1 ≤ l.length from ht)
      rw [Nat.add_mul, Nat.one_mul] at this
      omega
    rw [List.getElem?_eq_getElem hlt]
    have := h'.cells (g := g) rfl (t * k + j) _ (List.getElem?_eq_getElem hlt)
    rw [Nat.zero_add]
    have e : (⟨g, 0, none⟩ : Addr).add (t * k + j) = ⟨g, t * k + j, none⟩ := by unfold Addr.add; split <;> simp_all
    rw [e] at this
    exact this
/-- The first of what is seen, and the rest. -/
theorem SeesL.take {w : World} {ao : Option Addr} {n cap : Nat} {l : List α} (h : SeesL c k w (.slice ao n cap) l) (m : Nat) (hm : m ≤ n) : SeesL c k w (.slice ao m cap) (l.take m) := by
  obtain ⟨ao', cap', gb, ob, hv, h2, h3, h4, h5, h6⟩ := h
  simp only [Value.slice.injEq] at hv
  obtain ⟨rfl, rfl, rfl⟩ := hv
  have hl : (l.take m).length = m := by simp; omega
  refine ⟨ao, cap, gb, ob, by rw [hl], by rw [hl]; omega, by rw [hl]; omega, h4, fun h => h5 (by rw [hl] at h; omega), fun t x hx j hj => ?_⟩
  have ht : t < m := by have := (List.getElem?_eq_some_iff.1 hx).1; rwa [hl] at this
  exact h6 t x (by rw [List.getElem?_take_of_lt ht] at hx; exact hx) j hj
theorem SeesL.drop {w : World} {ao : Option Addr} {n cap : Nat} {l : List α} (h : SeesL c k w (.slice ao n cap) l) (m : Nat) (hm : m ≤ n) : SeesL c k w (.slice (if cap = m then ao else ao.map (·.add (m * k))) (n - m) (cap - m)) (l.drop m) := by
  obtain ⟨ao', cap', gb, ob, hv, h2, h3, h4, h5, h6⟩ := h
  simp only [Value.slice.injEq] at hv
  obtain ⟨rfl, rfl, rfl⟩ := hv
  have hl : (l.drop m).length = l.length - m := by simp
  refine ⟨_, cap - m, gb, ob + m * k, by rw [hl], by rw [hl]; omega, by rw [hl]; omega, fun h => ?_, fun h => ?_, fun t x hx j hj => ?_⟩
  · split at h
    · have := h4 h; omega
    · cases ao with
      | none => have := h4 rfl; omega
      | some a => simp at h
  · rw [hl] at h
    rw [h5 (by omega), if_neg (by omega)]
    simp only [Option.map_some, Addr.add]
    by_cases hz : m * k = 0 <;> simp [hz]
  · rw [List.getElem?_drop] at hx
    have := h6 (m + t) x hx j hj
    rw [Nat.add_mul] at this
    rw [show ob + m * k + t * k + j = ob + (m * k + t * k) + j by omega]
    exact this

theorem grownBy_refl (w : World) (r : Option Nat) : w.grownBy w r := ⟨rfl, rfl, rfl, Nat.le_refl _, fun _ _ _ => rfl⟩
/-- append(s, x...) where s is one's own and x is seen. -/
theorem run_append_L (hk : ∀ x, (c x).length = k) (h1 : ∀ x, ∀ u ∈ c x, u.oneCell' = true) {P : Program} {w : World} (base : Nat) (t ty e : TypeId) (i : TypeInfo) (z : Value) (bytes : Nat) (ht : P.underlying t = some (.slice e)) (hi : P.info? e = some i) (hz : i.zero = some z)
    (hsize : i.size = k) (hby : i.bytes = bytes) (hzs : z.cells.size = k) (hk0 : 0 < k) {v v2 : Value} {n : Nat} {xs : List Value} {l2 : List α} (hown : w.ownsRow base e k v n xs) (hs : SeesL c k w v2 l2)
    (h63 : n + l2.length ≤ maxLen) (hbytes : (n + l2.length) * bytes ≤ 140737488355328) (hbase : base ≤ w.heap.size) :
    ∃ v' w', (Builtin.append_ #[t, t] ty #[v, v2]).run P w = .ok v' w' ∧ w'.ownsRow base e k v' (n + l2.length) (xs ++ l2.flatMap c) ∧ w.grownBy w' v.ownBlock := by
  obtain ⟨ao, cap, gb, ob, rfl, h2, h3, h4, h5, h6⟩ := hs
  cases ao with
  | none =>
    obtain rfl := h4 rfl
    obtain rfl : l2 = [] := List.length_eq_zero_iff.1 (by omega)
    exact ⟨v, w, run_append_owned_none w base t ty e i k ht hi v n xs hown, by simpa using hown, grownBy_refl _ _⟩
  | some ad =>
    obtain ⟨v', w', hr, h7, h8, _⟩ := run_append_own (P := P) w base t ty e i z k bytes ht hi hz hsize hby hzs hk0 v n xs hown ad l2.length cap (l2.flatMap c) (flat_len hk l2) (fun j u hu => by
      have hj : j < l2.length * k := by have := (List.getElem?_eq_some_iff.1 hu).1; rwa [flat_len hk] at this
      have hq : j / k < l2.length := Nat.div_lt_of_lt_mul (by rw [Nat.mul_comm]; exact hj)
      have hm : j % k < k := Nat.mod_lt _ hk0
      have hjk : j / k * k + j % k = j := by rw [Nat.mul_comm]; exact Nat.div_add_mod j k
      obtain rfl := Option.some.inj (h5 (Nat.lt_of_le_of_lt (Nat.zero_le _) hq))
      have e0 : l2[j / k]? = some l2[j / k] := List.getElem?_eq_getElem hq
      have := h6 (j / k) _ e0 (j % k) hm
      rw [← flat_at hk l2 (j / k) _ e0 (j % k) hm, hjk, hu, Nat.add_assoc, hjk] at this
      have ea : (⟨gb, ob, none⟩ : Addr).add j = ⟨gb, ob + j, none⟩ := by unfold Addr.add; split <;> simp_all
      rw [ea]
      exact this) (flat_one h1 l2) h63 hbytes hbase
    exact ⟨v', w', hr, h7, h8⟩
end
theorem info_parts {P : Program} {t : TypeId} {z : Option Value} {s b : Nat} (h : (P.info? t).map (fun i => (i.zero, i.size, i.bytes)) = some (z, s, b)) : ∃ i, P.info? t = some i ∧ i.zero = z ∧ i.size = s ∧ i.bytes = b := by
  cases hi : P.info? t with
  | none => rw [hi] at h; cases h
  | some i =>
    rw [hi] at h
    simp only [Option.map_some, Option.some.injEq, Prod.mk.injEq] at h
    exact ⟨i, rfl, h.1, h.2.1, h.2.2⟩
theorem run_sliceE {ρ : Operand → Value} {o : Oper} {w : World} {T : TypeId} {x : Operand} {lo hi mx : Option Operand} {v : Value} {ao : Option Addr} {n cap E : Nat} (hT : Tryd.prog.underlying T = some (.slice E)) (ho : o.op = .slice T x lo hi mx) (hx : ρ x = .slice ao n cap) (hr : (Instr.slice T (.slice ao n cap) (lo.map ρ) (hi.map ρ) (mx.map ρ)).run Tryd.prog w = .ok v w) :
    Sem.run Tryd.prog (execOp ρ o) w = .ok (.value v) w := by
  unfold execOp
  rw [ho]
  simp [Instr.sliceAt, run_underlying hT, hx, hr]
theorem wpList_slice_wanted {w : World} {ops : Array Oper} {rest : List Oper} {o : Oper} {a : Act} {Q : Exit → Act → World → Prop} {T E : TypeId} {x : Operand} {lo hi mx : Option Operand} {v : Value} {ao : Option Addr} {n cap : Nat} (hw : Region.wanted o (yielded ops a.tmps) = true) (hT : Tryd.prog.underlying T = some (.slice E))
    (ho : o.op = .slice T x lo hi mx) (hx : a.eval x = .slice ao n cap) (hr : (Instr.slice T (.slice ao n cap) (lo.map a.eval) (hi.map a.eval) (mx.map a.eval)).run Tryd.prog w = .ok v w) (h : wpList Tryd.prog ops Q rest (a.put o.dst v) w) : wpList Tryd.prog ops Q (o :: rest) a w := by
  unfold wpList
  rw [if_pos hw]
  refine Or.inl ?_
  unfold Oper.wp
  rw [run_sliceE hT ho hx hr]
  exact h
theorem add_zero (a : Addr) : a.add 0 = a := by simp [Addr.add]
theorem slice_head {T E : TypeId} {i : TypeInfo} (hT : Tryd.prog.underlying T = some (.slice E)) (hi : Tryd.prog.info? E = some i) (ao : Option Addr) (n cap j : Nat) (h : j ≤ cap) (w : World) :
    (Instr.slice T (.slice ao n cap) none (some (.int .i64 j)) none).run Tryd.prog w = .ok (.slice ao j cap) w := by
  have e : ao.map (·.add (0 * i.size)) = ao := by
    cases ao with
    | none => rfl
    | some a => simp [add_zero]
  simp [Instr.slice, run_underlying hT, Instr.sliceBounds, Instr.sliceBound, asIntOf, sizeOf, typeInfo, hi, h]
  intro _
  simpa using e
/-- What a slice from j on is. -/
def tailV (k : Nat) (ao : Option Addr) (n cap j : Nat) : Value := .slice (if cap = j then ao else ao.map (·.add (j * k))) (n - j) (cap - j)
theorem slice_tail {T E : TypeId} {i : TypeInfo} {k : Nat} (hT : Tryd.prog.underlying T = some (.slice E)) (hi : Tryd.prog.info? E = some i) (hk : i.size = k) (ao : Option Addr) (n cap j : Nat) (h : j ≤ n) (w : World) :
    (Instr.slice T (.slice ao n cap) (some (.int .i64 j)) none none).run Tryd.prog w = .ok (tailV k ao n cap j) w := by
  subst hk
  unfold tailV
  simp [Instr.slice, run_underlying hT, Instr.sliceBounds, Instr.sliceBound, asIntOf, sizeOf, typeInfo, hi, h]

theorem own_block_le {w : World} {base : Nat} {e size : Nat} {v : Value} {n : Nat} {xs : List Value} (h : w.ownsRow base e size v n xs) : ∀ k, v.ownBlock = some k → base ≤ k := fun k hk => (h.lt k hk).1


theorem frozen_of_heap {w : World} {b o : Nat} {cs : Array Value} {T : TypeId} (h : w.heap[b]? = some (.cells cs T)) : w.frozen? ⟨b, o, none⟩ = false := by
  simp [World.frozen?, h]
/-- A type of elements, and of slices of them. -/
structure RT {α : Type} (c : α → List Value) (k T e by_ : Nat) : Prop where
  len : ∀ x, (c x).length = k
  one : ∀ x, ∀ u ∈ c x, u.oneCell' = true
  pos : 0 < k
  und : Tryd.prog.underlying T = some (.slice e)
  info : ∃ i z, Tryd.prog.info? e = some i ∧ i.zero = some z ∧ i.size = k ∧ i.bytes = by_ ∧ z.cells.size = k
section
variable {α : Type} {c : α → List Value} {k T e by_ : Nat}
theorem RT.head (R : RT c k T e by_) (ao : Option Addr) (n cap j : Nat) (h : j ≤ cap) (w : World) : (Instr.slice T (.slice ao n cap) none (some (.int .i64 j)) none).run Tryd.prog w = .ok (.slice ao j cap) w := by
  obtain ⟨i, _, hi, _⟩ := R.info
  exact slice_head R.und hi ao n cap j h w
theorem RT.tail (R : RT c k T e by_) (ao : Option Addr) (n cap j : Nat) (h : j ≤ n) (w : World) : (Instr.slice T (.slice ao n cap) (some (.int .i64 j)) none none).run Tryd.prog w = .ok (tailV k ao n cap j) w := by
  obtain ⟨i, _, hi, _, hs, _⟩ := R.info
  exact slice_tail R.und hi hs ao n cap j h w
theorem RT.app (R : RT c k T e by_) {w : World} {base : Nat} {v v2 : Value} {n : Nat} {l l2 : List α} (ty : TypeId) (hown : w.ownsRow base e k v n (l.flatMap c)) (hs : SeesL c k w v2 l2) (hm : n + l2.length ≤ 9223372036854775807) (hl : (n + l2.length) * by_ ≤ 140737488355328) (hbase : base ≤ w.heap.size) :
    ∃ ao cap w', (Builtin.append_ #[T, T] ty #[v, v2]).run Tryd.prog w = .ok (.slice ao (n + l2.length) cap) w' ∧ w'.ownsRow base e k (.slice ao (n + l2.length) cap) (n + l2.length) ((l ++ l2).flatMap c) ∧ Below base w w' := by
  obtain ⟨i, z, hi, hz, hs1, hb, hzs⟩ := R.info
  obtain ⟨v', w', h1, h2, h3⟩ := run_append_L R.len R.one base T ty e i z by_ R.und hi hz hs1 hb hzs R.pos hown hs (by unfold maxLen; omega) hl hbase
  obtain ⟨ao, cap, hv⟩ := own_shape h2
  subst hv
  rw [List.flatMap_append]
  exact ⟨ao, cap, w', h1, h2, (Below.refl _ _).grown h3 hbase (own_block_le hown)⟩
end
/-- An instruction: its address, its number, A, B, Imm. -/
structure Ins where
  ad : Int
  op : Int
  a : Int
  b : Int
  im : Int
  deriving DecidableEq, Inhabited
def iC (x : Ins) : List Value := [.int .i64 x.ad, .int .i64 x.op, .int .i64 x.a, .int .i64 x.b, .int .i64 x.im]
def yC (x : Int) : List Value := [.int .u8 x]
def nC (x : Int) : List Value := [.int .i64 x]
theorem iC_len (x : Ins) : (iC x).length = 5 := rfl
theorem yC_len (x : Int) : (yC x).length = 1 := rfl
theorem nC_len (x : Int) : (nC x).length = 1 := rfl
theorem iC_one (k : Ins) : ∀ u ∈ iC k, u.oneCell' = true := by
  intro u hu
  simp only [iC, List.mem_cons, List.not_mem_nil, or_false] at hu
  rcases hu with rfl | rfl | rfl | rfl | rfl <;> rfl
theorem yC_one (k : Int) : ∀ u ∈ yC k, u.oneCell' = true := by
  intro u hu
  simp only [yC, List.mem_cons, List.not_mem_nil, or_false] at hu
  subst hu; rfl
theorem nC_one (k : Int) : ∀ u ∈ nC k, u.oneCell' = true := by
  intro u hu
  simp only [nC, List.mem_cons, List.not_mem_nil, or_false] at hu
  subst hu; rfl
theorem Tryd.inf28 : (Tryd.prog.info? 89).map (fun i => (i.zero, i.size, i.bytes)) = some (some (.agg #[.int .i64 0, .int .i64 0, .int .i64 0, .int .i64 0, .int .i64 0]), 5, 40) := by kernel_rfl
theorem Tryd.inf5 : (Tryd.prog.info? 5).map (fun i => (i.zero, i.size, i.bytes)) = some (some (.int .u8 0), 1, 1) := by kernel_rfl
theorem Tryd.inf3 : (Tryd.prog.info? 3).map (fun i => (i.zero, i.size, i.bytes)) = some (some (.int .i64 0), 1, 8) := by kernel_rfl
theorem rtI : RT iC 5 78 89 40 := ⟨iC_len, iC_one, by decide, Tryd.underlying78, by
  obtain ⟨i, hi, hz, hs1, hb⟩ := info_parts Tryd.inf28
  exact ⟨i, _, hi, hz, hs1, hb, rfl⟩⟩
theorem rtY : RT yC 1 31 5 1 := ⟨yC_len, yC_one, by decide, Tryd.underlying31, by
  obtain ⟨i, hi, hz, hs1, hb⟩ := info_parts Tryd.inf5
  exact ⟨i, _, hi, hz, hs1, hb, rfl⟩⟩
theorem rtN : RT nC 1 131 3 8 := ⟨nC_len, nC_one, by decide, Tryd.underlying131, by
  obtain ⟨i, hi, hz, hs1, hb⟩ := info_parts Tryd.inf3
  exact ⟨i, _, hi, hz, hs1, hb, rfl⟩⟩
end Go.Proofs.YtldapckooohigaaDoor

/- Instructions in pure terms: sizes, registers, widths; one read off bytes, all of them; one written. -/
namespace Go.Proofs.YtldapckooohigaaDoor
set_option maxRecDepth 100000

/-- Bytes of each instruction. -/
def szL : List Int := [1, 4, 3, 3, 3, 3, 2, 3, 3, 3, 3, 3, 3, 3, 3, 3, 3, 3, 3, 3, 3, 3, 3, 4, 2, 2, 4, 4]
def sz (op : Int) : Int := if 0 ≤ op ∧ op < 28 then szL.getD op.toNat 0 else 0
def rg (op : Int) : Nat := if op = 0 ∨ op = 6 ∨ op = 22 ∨ op = 25 then 0 else if op = 1 ∨ op = 2 ∨ op = 3 ∨ op = 4 ∨ op = 5 ∨ op = 19 ∨ op = 23 ∨ op = 24 then 1 else 2
def wd (op : Int) : Nat := (sz op - 1 - rg op).toNat
theorem op_cases {op : Int} (h0 : 0 ≤ op) (h1 : op < 28) : op = 0 ∨ op = 1 ∨ op = 2 ∨ op = 3 ∨ op = 4 ∨ op = 5 ∨ op = 6 ∨ op = 7 ∨ op = 8 ∨ op = 9 ∨ op = 10 ∨ op = 11 ∨ op = 12 ∨ op = 13 ∨ op = 14 ∨ op = 15 ∨ op = 16 ∨ op = 17 ∨ op = 18 ∨ op = 19 ∨ op = 20 ∨ op = 21 ∨ op = 22 ∨ op = 23 ∨ op = 24 ∨ op = 25 ∨ op = 26 ∨ op = 27 := by omega
theorem op_fin : ∀ y : Fin 28, (1 ≤ sz (y.val : Int) ∧ sz (y.val : Int) ≤ 4 ∧ sz (y.val : Int) = 1 + rg (y.val : Int) + wd (y.val : Int) ∧ rg (y.val : Int) ≤ 2 ∧ wd (y.val : Int) ≤ 2) ∧ szL.getD y.val 0 = sz (y.val : Int) := by decide
theorem op_facts {op : Int} (h0 : 0 ≤ op) (h1 : op < 28) : 1 ≤ sz op ∧ sz op ≤ 4 ∧ sz op = 1 + rg op + wd op ∧ rg op ≤ 2 ∧ wd op ≤ 2 ∧ szL.getD op.toNat 0 = sz op := by
  have h := op_fin ⟨op.toNat, by omega⟩
  simp only [Int.toNat_of_nonneg h0] at h
  obtain ⟨⟨a, b, c, d, e⟩, f⟩ := h
  exact ⟨a, b, c, d, e, f⟩
theorem sz_pos {op : Int} (h : sz op ≠ 0) : 0 ≤ op ∧ op < 28 := by
  unfold sz at h
  split at h
  · assumption
  · exact absurd rfl h
theorem sz_none {op : Int} (h : ¬ (0 ≤ op ∧ op < 28)) : sz op = 0 := by unfold sz; rw [if_neg h]
theorem sz_ne {op : Int} (h0 : 0 ≤ op) (h1 : op < 28) : sz op ≠ 0 := by have := (op_facts h0 h1).1; omega

/-- A number of its bytes, the lower one first. -/
def vl : List Int → Int
  | [] => 0
  | [x] => x
  | x :: y :: _ => x + 256 * y
def sg (u : Int) : Int := if u < 32768 then u else u - 65536
def imm (op : Int) (l : List Int) : Int := if op = 1 then sg (vl l) else vl l
/-- What stands at an address. -/
def rd (l : List Int) (p : Nat) : Ins := ⟨p, l.getD p 0, if 1 ≤ rg (l.getD p 0) then l.getD (p + 1) 0 else 0, if 2 ≤ rg (l.getD p 0) then l.getD (p + 2) 0 else 0, imm (l.getD p 0) ((l.drop (p + 1 + rg (l.getD p 0))).take (wd (l.getD p 0)))⟩
/-- Its registers are there, and the bits to which it cuts. -/
def sd (x : Ins) : Bool := decide ((x.op = 19 → x.im = 8 ∨ x.im = 16 ∨ x.im = 32) ∧ (0 ≤ x.a ∧ x.a < 8) ∧ 0 ≤ x.b ∧ x.b < 8)
/-- What is wrong at an address. -/
def oneE (l : List Int) (p : Int) : Int :=
  if 0 ≤ p ∧ p < l.length then
    (if sz (l.getD p.toNat 0) = 0 ∨ (l.length : Int) - p < sz (l.getD p.toNat 0) then 130 else if sd (rd l p.toNat) = true then 0 else 132)
  else 130
theorem oneE_ok {l : List Int} {p : Nat} (h : oneE l p = 0) : p < l.length ∧ 0 ≤ l.getD p 0 ∧ l.getD p 0 < 28 ∧ (p : Int) + sz (l.getD p 0) ≤ l.length ∧ sd (rd l p) = true := by
  unfold oneE at h
  simp only [Int.toNat_natCast] at h
  split at h
  · rename_i h1
    split at h
    · cases h
    · rename_i h2
      simp only [not_or] at h2
      have := sz_pos h2.1
      split at h
      · rename_i h3
        exact ⟨by omega, this.1, this.2, by omega, h3⟩
      · cases h
  · cases h
/-- The size at an address. -/
def sA (l : List Int) (p : Nat) : Nat := (sz (l.getD p 0)).toNat
theorem sA_pos {l : List Int} {p : Nat} (h : oneE l p = 0) : 1 ≤ sA l p ∧ sA l p ≤ 4 ∧ p + sA l p ≤ l.length ∧ ((sA l p : Nat) : Int) = sz (l.getD p 0) := by
  obtain ⟨h1, h2, h3, h4, _⟩ := oneE_ok h
  have := op_facts h2 h3
  unfold sA
  omega
/-- All from an address on, and what is wrong behind them. -/
def wkR (l : List Int) (p : Nat) : List Ins × Int :=
  if _h : p < l.length then
    (if _h2 : oneE l p = 0 then (rd l p :: (wkR l (p + sA l p)).1, (wkR l (p + sA l p)).2) else ([], oneE l p))
  else ([], 0)
  termination_by l.length - p
  decreasing_by all_goals (have := sA_pos _h2; omega)
theorem wkR_end {l : List Int} {p : Nat} (h : l.length ≤ p) : wkR l p = ([], 0) := by rw [wkR, dif_neg (by omega)]
theorem wkR_no {l : List Int} {p : Nat} (h : p < l.length) (h2 : oneE l p ≠ 0) : wkR l p = ([], oneE l p) := by rw [wkR, dif_pos h, dif_neg h2]
theorem wkR_yes {l : List Int} {p : Nat} (h2 : oneE l p = 0) : wkR l p = (rd l p :: (wkR l (p + sA l p)).1, (wkR l (p + sA l p)).2) := by
  have := sA_pos h2
  rw [wkR, dif_pos (by omega), dif_pos h2]
def jmp (x : Ins) : Bool := decide (x.op = 22 ∨ x.op = 23)
/-- A jump's target is the address of one of them. -/
def tgt (l : List Ins) (x : Ins) : Bool := !jmp x || l.any fun y => decide (y.ad = x.im)
def dec (l : List Int) : List Ins × Int :=
  if 512 < l.length then ([], 3)
  else if (wkR l 0).2 ≠ 0 then ([], (wkR l 0).2)
  else if (wkR l 0).1.all (tgt (wkR l 0).1) = true then ((wkR l 0).1, 0) else ([], 131)

/-- What an instruction does not have is zero. -/
def lnn (x : Ins) : Bool := decide ((0 < rg x.op ∨ x.a = 0) ∧ (1 < rg x.op ∨ x.b = 0) ∧ (0 < wd x.op ∨ x.im = 0))
def fit (x : Ins) : Bool := if x.op = 1 then decide (-32768 ≤ x.im ∧ x.im ≤ 32767) else decide (0 ≤ x.im ∧ x.im < (if wd x.op = 0 then 1 else if wd x.op = 1 then 256 else 65536))
def putE (x : Ins) : Int := if (0 ≤ x.op ∧ x.op < 28) ∧ lnn x = true then (if sd x = true then (if fit x = true then 0 else 130) else 132) else 130
/-- Its bytes. -/
def putB (x : Ins) : List Int := [x.op] ++ (if rg x.op = 0 then [] else if rg x.op = 1 then [x.a] else [x.a, x.b]) ++ (if wd x.op = 0 then [] else if wd x.op = 1 then [x.im % 256] else [x.im % 256, x.im / 256 % 256])
def encE : List Ins → Int
  | [] => 0
  | x :: r => if putE x = 0 then encE r else putE x
def enc (l : List Ins) : List Int × Int :=
  if encE l ≠ 0 then ([], encE l) else if 512 < (l.flatMap putB).length then ([], 3) else (l.flatMap putB, 0)
theorem putE_op {x : Ins} (h : putE x = 0) : (0 ≤ x.op ∧ x.op < 28) ∧ lnn x = true ∧ sd x = true ∧ fit x = true := by
  unfold putE at h
  repeat' split at h
  all_goals first | cases h | skip
  rename_i a b c
  exact ⟨a.1, a.2, b, c⟩
theorem putB_len {x : Ins} (h : 0 ≤ x.op ∧ x.op < 28) : ((putB x).length : Int) = sz x.op := by
  obtain ⟨_, _, e, h1, h2, _⟩ := op_facts h.1 h.2
  unfold putB
  rw [e]
  rcases (by omega : rg x.op = 0 ∨ rg x.op = 1 ∨ rg x.op = 2) with a | a | a <;> rcases (by omega : wd x.op = 0 ∨ wd x.op = 1 ∨ wd x.op = 2) with b | b | b <;> simp [a, b] <;> omega
/-- Numbers that are bytes. -/
def Byt (l : List Int) : Prop := ∀ b ∈ l, 0 ≤ b ∧ b ≤ 255
theorem Byt.append {a b : List Int} (ha : Byt a) (hb : Byt b) : Byt (a ++ b) := fun x hx => (List.mem_append.1 hx).elim (ha x) (hb x)
theorem Byt.drop {a : List Int} (ha : Byt a) (k : Nat) : Byt (a.drop k) := fun x hx => ha x (List.mem_of_mem_drop hx)
theorem Byt.take {a : List Int} (ha : Byt a) (k : Nat) : Byt (a.take k) := fun x hx => ha x (List.mem_of_mem_take hx)
theorem Byt.get {l : List Int} (h : Byt l) (t : Nat) : 0 ≤ l.getD t 0 ∧ l.getD t 0 ≤ 255 := by
  by_cases ht : t < l.length
  · exact h (l.getD t 0) (by simp [List.getD, ht])
  · simp [List.getD, List.getElem?_eq_none (Nat.le_of_not_lt ht)]
theorem putB_byt {x : Ins} (h : putE x = 0) : Byt (putB x) := by
  obtain ⟨h1, h2, h3, h4⟩ := putE_op h
  simp only [sd, decide_eq_true_eq] at h3
  intro b hb
  unfold putB at hb
  simp only [List.mem_append, List.mem_singleton] at hb
  rcases hb with (hb | hb) | hb
  · omega
  · split at hb
    · cases hb
    · split at hb <;> simp at hb <;> omega
  · split at hb
    · cases hb
    · split at hb <;> simp at hb <;> omega
theorem enc_byt : ∀ {l : List Ins}, encE l = 0 → Byt (l.flatMap putB)
  | [], _ => fun b hb => by cases hb
  | x :: r, h => by
    unfold encE at h
    by_cases hx : putE x = 0
    · rw [if_pos hx] at h
      rw [List.flatMap_cons]
      exact (putB_byt hx).append (enc_byt h)
    · rw [if_neg hx] at h; exact absurd h hx
end Go.Proofs.YtldapckooohigaaDoor

/- Keys. -/
namespace Go.Proofs.YtldapckooohigaaDoor
open Go.RowKit
set_option maxRecDepth 100000

abbrev Ky := Int × Int
def kC (x : Ky) : List Value := [.int .i32 x.1, .int .i64 x.2]
theorem kC_len (x : Ky) : (kC x).length = 2 := rfl
theorem kC_one (k : Ky) : ∀ u ∈ kC k, u.oneCell' = true := by
  intro u hu
  simp only [kC, List.mem_cons, List.not_mem_nil, or_false] at hu
  rcases hu with rfl | rfl <;> rfl
def ltK (a b : Ky) : Prop := a.1 < b.1 ∨ a.1 = b.1 ∧ a.2 < b.2
instance (a b : Ky) : Decidable (ltK a b) := by unfold ltK; infer_instance
abbrev kV (x : Ky) : Value := .agg #[.int .i32 x.1, .int .i64 x.2]
end Go.Proofs.YtldapckooohigaaDoor
