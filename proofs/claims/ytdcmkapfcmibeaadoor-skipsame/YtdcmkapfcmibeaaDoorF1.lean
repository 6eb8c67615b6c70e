/- Appends whose frame is told by the row's type; rows of bytes and of numbers. -/
import Derived.Test.YtdcmkapfcmibeaaDoorF0
import Derived.Test.YtdcmkapfcmibeaaDoorHC
import Derived.Test.YtdcmkapfcmibeaaDoorHR0
namespace Go.Proofs.YtdcmkapfcmibeaaDoor
open Go.RowKit Go.Shelf
set_option maxRecDepth 100000

theorem own_keep0 {w w' : World} {base e size : Nat} {v : Value} {n : Nat} {xs : List Value} (h : w.ownsRow base e size v n xs) (hk : ∀ g, v.ownBlock = some g → w'.heap[g]? = w.heap[g]?) : w'.ownsRow base e size v n xs := by
  refine ⟨h.1, ?_⟩
  rcases h.2 with hn | ⟨g, cap, cur, hv, hg, hh, r⟩
  · exact .inl hn
  · subst hv
    exact .inr ⟨g, cap, cur, rfl, hg, (hk g rfl).trans hh, r⟩
/-- Rows of one type, from a block on, that stand in a memory. -/
def RowsOf (base e : Nat) (w : World) (k : Nat) : Prop := base ≤ k ∧ ∃ cs, w.heap[k]? = some (.cells cs e)
theorem RT.appU {α : Type} {c : α → List Value} {k T e : Nat} (R : RT c k T e) {w : World} {base : Nat} {v v2 : Value} {n : Nat} {l l2 : List α} (ty : TypeId) (hown : w.ownsRow base e k v n (l.flatMap c)) (hs : SeesL c k w v2 l2) (hl : n + l2.length ≤ 4398046511104) (hbase : base ≤ w.heap.size) :
    ∃ ao cap w', (Builtin.append_ #[T, T] ty #[v, v2]).run Tryd.prog w = .ok (.slice ao (n + l2.length) cap) w' ∧ w'.ownsRow base e k (.slice ao (n + l2.length) cap) (n + l2.length) ((l ++ l2).flatMap c) ∧ Upd (RowsOf base e w) w.heap.size w w' := by
  obtain ⟨i, z, bytes, hi, hz, hs1, hb, hzs, hby⟩ := R.info
  obtain ⟨v', w', h1, h2, h3⟩ := run_append_L R.len R.one base T ty e i z bytes R.und hi hz hs1 hb hzs R.pos hown hs (by unfold maxLen; omega) (Nat.le_trans (Nat.mul_le_mul hl hby) (by decide)) hbase
  obtain ⟨ao, cap, hv⟩ := own_shape h2
  subst hv
  rw [List.flatMap_append]
  refine ⟨ao, cap, w', h1, h2, h3.os, h3.tape, h3.output, h3.size, fun j hj hn => h3.block j hj fun e' => hn ?_⟩
  rcases hown.2 with ⟨rfl, _⟩ | ⟨g, cap', cur, rfl, hg, hh, _⟩
  · simp [Value.ownBlock] at e'
  · simp only [Value.ownBlock, Option.some.injEq] at e'
    subst e'
    exact ⟨hg, _, hh⟩
def bC (b : Int) : List Value := [.int .u8 b]
theorem bC_len (h : Int) : (bC h).length = 1 := rfl
theorem bC_one (k : Int) : ∀ u ∈ bC k, u.oneCell' = true := by
  intro u hu
  simp only [bC, List.mem_cons, List.not_mem_nil, or_false] at hu
  subst hu; rfl
theorem Tryd.info5b : (Tryd.prog.info? 5).map (fun i => (i.zero, i.size, i.bytes)) = some (some (.int .u8 0), 1, 1) := by kernel_rfl
theorem Tryd.info2b : (Tryd.prog.info? 2).map (fun i => (i.zero, i.size, i.bytes)) = some (some (.int .i64 0), 1, 8) := by kernel_rfl
theorem rtB : RT bC 1 39 5 := ⟨bC_len, bC_one, by decide, Tryd.underlying39, by
  obtain ⟨i, hi, hz, hs1, hb⟩ := info_parts Tryd.info5b
  exact ⟨i, _, 1, hi, hz, hs1, hb, rfl, by decide⟩⟩
theorem rtN : RT iC 1 100 2 := ⟨iC_len, iC_one, by decide, Tryd.underlying100, by
  obtain ⟨i, hi, hz, hs1, hb⟩ := info_parts Tryd.info2b
  exact ⟨i, _, 8, hi, hz, hs1, hb, rfl, by decide⟩⟩
theorem flat_ints (l : List Int) : l.flatMap iC = Sh.ints .i64 l := by
  induction l with
  | nil => rfl
  | cons a r ih => rw [List.flatMap_cons, ih]; rfl
theorem flat_bytes (l : List Int) : l.flatMap bC = Sh.ints .u8 l := by
  induction l with
  | nil => rfl
  | cons a r ih => rw [List.flatMap_cons, ih]; rfl
/-- A cell's four numbers; a store's numbers; its bytes. -/
def num4 (c : Pr) : List Int := [c.1.1, c.1.2, c.2.1, c.2.2]
def numsC (l : List Pr) : List Int := (l.length : Int) :: l.flatMap num4
def bytesC (l : List Pr) : List Int := Sh.putL (numsC l)
theorem bytesC_byt (l : List Pr) : Sh.Byt (bytesC l) := by
  unfold bytesC
  generalize numsC l = x
  induction x with
  | nil => intro b hb; cases hb
  | cons a r ih => exact Sh.Byt.append (fun b hb => Sh.numB_byte a b hb) ih
/-- What a cell may hold. -/
def OkC (c : Pr) : Prop := (-2147483648 ≤ c.1.1 ∧ c.1.1 ≤ 2147483647) ∧ (-9223372036854775808 ≤ c.1.2 ∧ c.1.2 ≤ 9223372036854775807) ∧ (-9223372036854775808 ≤ c.2.1 ∧ c.2.1 ≤ 9223372036854775807) ∧ (0 ≤ c.2.2 ∧ c.2.2 ≤ 1099511627776)
theorem okC_of {n : Nd} (h : OkN n) : OkC (cl n) := ⟨h.t, h.r, h.v, h.s⟩
theorem num4_len (l : List Pr) : (l.flatMap num4).length = l.length * 4 := by
  induction l with
  | nil => rfl
  | cons a r ih => rw [List.flatMap_cons, List.length_append, ih, List.length_cons, Nat.add_mul]; simp [num4]; omega
theorem numsC_ok {l : List Pr} (h : ∀ c ∈ l, OkC c) (hl : l.length ≤ 1048576) : Sh.I64 (numsC l) := by
  have hall : ∀ x ∈ numsC l, -9223372036854775808 ≤ x ∧ x ≤ 9223372036854775807 := by
    intro x hx
    rcases List.mem_cons.1 hx with rfl | hx
    · omega
    · obtain ⟨c, hc, hx⟩ := List.mem_flatMap.1 hx
      obtain ⟨h1, h2, h3, h4⟩ := h c hc
      simp only [num4, List.mem_cons, List.not_mem_nil, or_false] at hx
      rcases hx with rfl | rfl | rfl | rfl <;> omega
  intro t ht
  rw [List.getD, List.getElem?_eq_getElem ht]
  exact hall _ (List.getElem_mem ht)
theorem sizeC_le {l : List Pr} (hl : l.length ≤ 1048576) : (bytesC l).length ≤ 37748745 := by
  unfold bytesC
  rw [Sh.putL_length]
  have h1 := Sh.sizeL_le (numsC l)
  have h2 : (numsC l).length = 1 + l.length * 4 := by unfold numsC; rw [List.length_cons, num4_len]; omega
  omega
end Go.Proofs.YtdcmkapfcmibeaaDoor
