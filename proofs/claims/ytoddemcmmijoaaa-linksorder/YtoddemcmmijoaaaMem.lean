/- What a slice value shows: 'Sees w k v zs', the numbers zs of kind k lie under the slice v in the world w; how that lasts. -/
import Derived.WalkKit
import Derived.Laws.AppendOwnNone
import Derived.Laws.IdiomStrings
namespace Go.Proofs.Ytoddemcmmijoaaa
open Go.RowKit
set_option maxRecDepth 100000

def Sees (w : World) (k : IntKind) (v : Value) (zs : List Int) : Prop :=
  ∃ ao cap, v = .slice ao zs.length cap ∧ zs.length ≤ cap ∧ (ao = none → cap = 0) ∧ ∀ a, ao = some a → ∀ t, t < zs.length → w.cell? (a.add t) = some (.int k (zs.getD t 0))

/-- Numbers of one kind as cells. -/
def ints (k : IntKind) (l : List Int) : List Value := l.map (Value.int k)
theorem ints_append (k : IntKind) (a b : List Int) : ints k (a ++ b) = ints k a ++ ints k b := List.map_append
theorem ints_one (k : IntKind) (x : Int) : ints k [x] = [.int k x] := rfl
theorem ints_length (k : IntKind) (l : List Int) : (ints k l).length = l.length := List.length_map ..
theorem ints_get {k : IntKind} {l : List Int} {j : Nat} {u : Value} (h : (ints k l)[j]? = some u) : j < l.length ∧ u = .int k (l.getD j 0) := by
  simp only [ints, List.getElem?_map, Option.map_eq_some_iff] at h
  obtain ⟨x, hx, rfl⟩ := h
  have := (List.getElem?_eq_some_iff.1 hx).1
  exact ⟨this, by simp [List.getD, hx]⟩
theorem ints_cell (k : IntKind) (l : List Int) : ∀ u ∈ ints k l, u.oneCell' = true := by
  intro u hu
  simp only [ints, List.mem_map] at hu
  obtain ⟨x, _, rfl⟩ := hu
  rfl

theorem Sees.keep {w w' : World} {k : IntKind} {v : Value} {zs : List Int} (h : Sees w k v zs) (hc : ∀ p x, w.cell? p = some x → w'.cell? p = some x) : Sees w' k v zs := by
  obtain ⟨ao, cap, hv, hl, hn, ha⟩ := h
  exact ⟨ao, cap, hv, hl, hn, fun a e t ht => hc _ _ (ha a e t ht)⟩

theorem Sees.below {w w' : World} {k : IntKind} {v : Value} {zs : List Int} (h : Sees w k v zs) (hb : Below w.heap.size w w') : Sees w' k v zs :=
  h.keep fun p _ hp => (hb.cell (World.block_lt_of_cell? w p hp)).trans hp

theorem Sees.nil (w : World) (k : IntKind) : Sees w k (.slice none 0 0) [] := ⟨none, 0, rfl, Nat.le_refl _, fun _ => rfl, fun a h => by cases h⟩

theorem sees_of_own {w : World} {base e : Nat} {k : IntKind} {v : Value} {n : Nat} {xs : List Int} (h : w.ownsRow base e 1 v n (ints k xs)) : n = xs.length ∧ Sees w k v xs := by
  have hl : xs.length = n := by have := h.1; rw [ints_length] at this; omega
  subst hl
  refine ⟨rfl, ?_⟩
  have h' := h
  rcases h.2 with ⟨rfl, hn⟩ | ⟨g, cap, cur, rfl, hb, hg, hnc, hcm, hcs, htake⟩
  · obtain rfl := List.length_eq_zero_iff.1 hn
    exact Sees.nil w k
  · refine ⟨_, cap, rfl, hnc, (fun e => by cases e), fun a e t ht => ?_⟩
    obtain rfl := Option.some.inj e
    have := h'.cells (g := g) rfl t (.int k (xs.getD t 0)) (by simp [ints, List.getD, ht])
    exact this

/-- A new block of one's own numbers, whole. -/
theorem sees_new (w : World) (k : IntKind) (zs : List Int) (e : TypeId) (n : Nat) (hn : n = zs.length) : Sees (w.alloc (.cells (ints k zs).toArray e)) k (.slice (some ⟨w.heap.size, 0, none⟩) n n) zs := by
  subst hn
  refine ⟨_, zs.length, rfl, Nat.le_refl _, (fun h => by cases h), fun a h t ht => ?_⟩
  obtain rfl := Option.some.inj h
  have hadd : (⟨w.heap.size, 0, none⟩ : Addr).add t = ⟨w.heap.size, t, none⟩ := by unfold Addr.add; split <;> simp_all
  rw [hadd, cell_of_row _ w.heap.size t _ e (0, 0) (heap_alloc_new w _)]
  simp [ints, List.getD, ht]

theorem own_block_le {w : World} {base : Nat} {e size : Nat} {v : Value} {n : Nat} {xs : List Value} (h : w.ownsRow base e size v n xs) : ∀ k, v.ownBlock = some k → base ≤ k := fun k hk => (h.lt k hk).1

/-- Below 'base' all is as it was; and so is each block of numbers of type 2 (int64), wherever it lies. -/
structure Keeps (base : Nat) (w w' : World) : Prop where
  below : Below base w w'
  nums : ∀ (k : Nat) (cur : Array Value) (m : Nat × Nat), w.heap[k]? = some (Obj.cells cur 2 m) → w'.heap[k]? = some (Obj.cells cur 2 m)

theorem Keeps.refl (base : Nat) (w : World) : Keeps base w w := ⟨Below.refl _ _, fun _ _ _ h => h⟩
theorem Keeps.trans {base : Nat} {a b c : World} (h : Keeps base a b) (g : Keeps base b c) : Keeps base a c := ⟨h.below.trans g.below, fun k cur m e => g.nums k cur m (h.nums k cur m e)⟩
theorem Keeps.alloc {base : Nat} {a w : World} (h : Keeps base a w) (hb : base ≤ w.heap.size) (o : Obj) : Keeps base a (w.alloc o) :=
  h.trans ⟨(Below.refl _ _).alloc hb o, fun k cur m e => by rw [Below.heap_alloc w o k (Array.getElem?_eq_some_iff.1 e).1]; exact e⟩
theorem Keeps.drew {base : Nat} {a w : World} (h : Keeps base a w) : Keeps base a w.drew := ⟨h.below.drew, h.nums⟩
theorem Keeps.grown {base : Nat} {a w w' : World} {v : Value} {n : Nat} {xs : List Value} (h : Keeps base a w) (ho : w.ownsRow base 5 1 v n xs) (hg : w.grownBy w' v.ownBlock) (hb : base ≤ w.heap.size) : Keeps base a w' :=
  h.trans ⟨(Below.refl _ _).grown hg hb (own_block_le ho), fun k cur m e => by
    rw [hg.block k (Array.getElem?_eq_some_iff.1 e).1 ?_]
    · exact e
    · intro hk
      rcases ho.2 with ⟨rfl, _⟩ | ⟨g, cap, cur', rfl, _, hgg, _⟩
      · simp [Value.ownBlock] at hk
      · simp [Value.ownBlock] at hk
        subst hk
        rw [hgg] at e
        simp at e⟩

/-- A cell that lies below 'base' or in a block of int64s. -/
def Apart (w : World) (base : Nat) (p : Addr) : Prop := p.block < base ∨ ∃ (cur : Array Value) (m : Nat × Nat), w.heap[p.block]? = some (Obj.cells cur 2 m)
theorem Keeps.cell {base : Nat} {w w' : World} (h : Keeps base w w') {p : Addr} (ha : Apart w base p) : w'.cell? p = w.cell? p ∧ Apart w' base p := by
  rcases ha with ha | ⟨cur, m, e⟩
  · exact ⟨h.below.cell ha, .inl ha⟩
  · have e' := h.nums _ _ _ e
    exact ⟨World.cell?_of_block (e'.trans e.symm), .inr ⟨cur, m, e'⟩⟩

theorem own_mono {w : World} {base base' : Nat} {e size : Nat} {v : Value} {n : Nat} {xs : List Value} (h : w.ownsRow base e size v n xs) (hb : base' ≤ base) : w.ownsRow base' e size v n xs := by
  refine ⟨h.1, ?_⟩
  rcases h.2 with hn | ⟨g, cap, cur, hv, hg, rest⟩
  · exact .inl hn
  · exact .inr ⟨g, cap, cur, hv, Nat.le_trans hb hg, rest⟩

/-- The same, all of it below block number B. -/
def SeesB (B : Nat) (w : World) (k : IntKind) (v : Value) (zs : List Int) : Prop :=
  ∃ ao cap, v = .slice ao zs.length cap ∧ zs.length ≤ cap ∧ (ao = none → cap = 0) ∧ ∀ a, ao = some a → ∀ t, t < zs.length → w.cell? (a.add t) = some (.int k (zs.getD t 0)) ∧ (a.add t).block < B

theorem SeesB.sees {B : Nat} {w : World} {k : IntKind} {v : Value} {zs : List Int} (h : SeesB B w k v zs) : Sees w k v zs := by
  obtain ⟨ao, cap, hv, hl, hn, ha⟩ := h
  exact ⟨ao, cap, hv, hl, hn, fun a e t ht => (ha a e t ht).1⟩
theorem SeesB.mono {B B' : Nat} {w : World} {k : IntKind} {v : Value} {zs : List Int} (h : SeesB B w k v zs) (hb : B ≤ B') : SeesB B' w k v zs := by
  obtain ⟨ao, cap, hv, hl, hn, ha⟩ := h
  exact ⟨ao, cap, hv, hl, hn, fun a e t ht => ⟨(ha a e t ht).1, Nat.lt_of_lt_of_le (ha a e t ht).2 hb⟩⟩
theorem Sees.upto {w : World} {k : IntKind} {v : Value} {zs : List Int} (h : Sees w k v zs) : SeesB w.heap.size w k v zs := by
  obtain ⟨ao, cap, hv, hl, hn, ha⟩ := h
  exact ⟨ao, cap, hv, hl, hn, fun a e t ht => ⟨ha a e t ht, World.block_lt_of_cell? w _ (ha a e t ht)⟩⟩
theorem SeesB.below {B B' : Nat} {w w' : World} {k : IntKind} {v : Value} {zs : List Int} (h : SeesB B w k v zs) (hb : Below B' w w') (hle : B ≤ B') : SeesB B w' k v zs := by
  obtain ⟨ao, cap, hv, hl, hn, ha⟩ := h
  exact ⟨ao, cap, hv, hl, hn, fun a e t ht => ⟨(hb.cell (Nat.lt_of_lt_of_le (ha a e t ht).2 hle)).trans (ha a e t ht).1, (ha a e t ht).2⟩⟩

theorem add_add (a : Addr) (p t : Nat) : (a.add p).add t = a.add (p + t) := by
  unfold Addr.add
  by_cases hp : p = 0
  · subst hp; simp
  · by_cases ht : t = 0
    · subst ht; simp [hp]
    · simp [hp, ht, Nat.add_assoc]

/-- A piece of what is seen. -/
theorem SeesB.cut {B : Nat} {w : World} {k : IntKind} {ao : Option Addr} {cap : Nat} {zs : List Int} (h : SeesB B w k (.slice ao zs.length cap) zs) (p n : Nat) (hp : p + n ≤ zs.length) :
    SeesB B w k (.slice (if cap = p then ao else ao.map (·.add p)) n (cap - p)) ((zs.drop p).take n) := by
  obtain ⟨ao', cap', hv, hl, hn, ha⟩ := h
  simp only [Value.slice.injEq, true_and] at hv
  obtain ⟨rfl, rfl⟩ := hv
  have hlen : ((zs.drop p).take n).length = n := by simp; omega
  refine ⟨_, cap - p, by rw [hlen], by rw [hlen]; omega, ?_, ?_⟩
  · intro h
    split at h
    · omega
    · cases ao with
      | none => have := hn rfl; omega
      | some a => simp at h
  · intro a h t ht
    rw [hlen] at ht
    rw [if_neg (by omega)] at h
    cases ao with
    | none => simp at h
    | some b =>
      simp only [Option.map_some, Option.some.injEq] at h
      subst h
      have := ha b rfl (p + t) (by omega)
      rw [add_add]
      refine ⟨?_, this.2⟩
      rw [this.1]
      simp [List.getD, ht, List.getElem?_drop]

/-- Numbers that are bytes. -/
def Byt (l : List Int) : Prop := ∀ b ∈ l, 0 ≤ b ∧ b ≤ 255
theorem Byt.append {a b : List Int} (ha : Byt a) (hb : Byt b) : Byt (a ++ b) := fun x hx => (List.mem_append.1 hx).elim (ha x) (hb x)
theorem Byt.drop {a : List Int} (ha : Byt a) (k : Nat) : Byt (a.drop k) := fun x hx => ha x (List.mem_of_mem_drop hx)
theorem Byt.take {a : List Int} (ha : Byt a) (k : Nat) : Byt (a.take k) := fun x hx => ha x (List.mem_of_mem_take hx)
theorem Byt.get {l : List Int} (h : Byt l) (t : Nat) : 0 ≤ l.getD t 0 ∧ l.getD t 0 ≤ 255 := by
  by_cases ht : t < l.length
  · have := h (l.getD t 0) (by simp [List.getD, ht])
    exact this
  · simp [List.getD, List.getElem?_eq_none (Nat.le_of_not_lt ht)]

/-- Bytes as a string. -/
def strOf (l : List Int) : ByteArray := ⟨(l.map fun n => UInt8.ofNat n.toNat).toArray⟩
theorem strOf_inj {a b : List Int} (ha : Byt a) (hb : Byt b) (h : strOf a = strOf b) : a = b := by
  simp only [strOf, ByteArray.mk.injEq] at h
  have h' := congrArg Array.toList h
  simp only at h'
  clear h
  induction a generalizing b with
  | nil => cases b with
    | nil => rfl
    | cons y r => simp at h'
  | cons x r ih => cases b with
    | nil => simp at h'
    | cons y q =>
      simp only [List.map_cons, List.cons.injEq] at h'
      have hx := ha x (List.mem_cons_self ..)
      have hy := hb y (List.mem_cons_self ..)
      have e := congrArg UInt8.toNat h'.1
      simp only [UInt8.toNat_ofNat'] at e
      have e' : x = y := by omega
      rw [e', ih (fun z hz => ha z (List.mem_cons_of_mem _ hz)) (fun z hz => hb z (List.mem_cons_of_mem _ hz)) h'.2]

theorem run_conv_sees {P : Program} (w : World) (src dst e : TypeId) (v : Value) (xs : List Int) (hs : P.underlying src = some (.slice e)) (he : P.underlying e = some (.int .u8)) (hd : P.underlying dst = some .string)
    (hv : Sees w .u8 v xs) (hb : Byt xs) : (convert src dst v).run P w = .ok (.string (strOf xs)) w := by
  obtain ⟨ao, cap, rfl, hl, hn, hc⟩ := hv
  cases ao with
  | none =>
    obtain rfl := hn rfl
    obtain rfl : xs = [] := List.length_eq_zero_iff.1 (by omega)
    simp only [List.length_nil]
    rw [run_convert_bytes_string w src dst e none 0 0 hs he hd]
    simp [Conv.bytesToString]
    rfl
  | some a =>
    have := run_convert_bytes_back (P := P) w src dst e a cap (xs.map fun n => UInt8.ofNat n.toNat) hs he hd (fun j hj => by
      have hj' : j < xs.length := by simpa using hj
      rw [hc a rfl j hj']
      have hbj := hb.get j
      simp [List.getD, hj'] at hbj ⊢
      omega)
    rw [List.length_map] at this
    exact this

end Go.Proofs.Ytoddemcmmijoaaa
