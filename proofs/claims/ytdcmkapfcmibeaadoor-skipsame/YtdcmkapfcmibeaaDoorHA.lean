/- Several texts as one. -/
import Derived.WalkKit
import Derived.Laws.BitsAllLaws
import Derived.Laws.AppendOwnNone
import Derived.Laws.IdiomStrings

/- Plain mathematics of numbers as bytes: how many bytes a number has, its bytes, and back; nothing of the program. -/
namespace Go.Proofs.YtdcmkapfcmibeaaDoor.Sh
open Go.RowKit
set_option maxRecDepth 100000

theorem hide {p : Prop} (h : p) : Hid p := h
theorem unhide {p : Prop} (h : Hid p) : p := h

/-- How many bytes a number of 64 bits without sign has. -/
def wid (u : Int) : Nat :=
  if u < 1 then 0 else if u < 256 then 1 else if u < 65536 then 2 else if u < 16777216 then 3 else if u < 4294967296 then 4 else if u < 1099511627776 then 5 else if u < 281474976710656 then 6 else if u < 72057594037927936 then 7 else 8

/-- A number without its sign. -/
def mag (x : Int) : Int := if x < 0 then -x else x

/-- The k lowest bytes, the lowest one first. -/
def lowL : Nat → Int → List Int
  | 0, _ => []
  | k + 1, u => u % 256 :: lowL k (u / 256)

/-- What is left of u behind j bytes. -/
def sh : Nat → Int → Int
  | 0, u => u
  | j + 1, u => sh j u / 256

/-- What bytes say, the lowest one first. -/
def valL : List Int → Int
  | [] => 0
  | b :: r => b + 256 * valL r

def B256 : Nat → Int
  | 0 => 1
  | k + 1 => 256 * B256 k

theorem wid_le (u : Int) : wid u ≤ 8 := by unfold wid; (repeat' split) <;> omega

theorem sh_div (j : Nat) (u : Int) : sh j (u / 256) = sh j u / 256 := by
  induction j with
  | zero => rfl
  | succ j ih => simp only [sh, ih]

theorem sh_nonneg (j : Nat) (u : Int) (h : 0 ≤ u) : 0 ≤ sh j u := by
  induction j with
  | zero => exact h
  | succ j ih => simp only [sh]; omega

theorem sh_le (j : Nat) (u : Int) (h : 0 ≤ u) : sh j u ≤ u := by
  induction j with
  | zero => exact Int.le_refl _
  | succ j ih => have := sh_nonneg j u h; simp only [sh]; omega

theorem lowL_snoc (j : Nat) (u : Int) : lowL (j + 1) u = lowL j u ++ [sh j u % 256] := by
  induction j generalizing u with
  | zero => rfl
  | succ j ih => rw [lowL, ih (u / 256)]; simp only [lowL, List.cons_append, sh, sh_div]

theorem lowL_length (k : Nat) (u : Int) : (lowL k u).length = k := by
  induction k generalizing u with
  | zero => rfl
  | succ k ih => simp only [lowL, List.length_cons, ih]

theorem lowL_byte (k : Nat) (u : Int) : ∀ b ∈ lowL k u, 0 ≤ b ∧ b ≤ 255 := by
  induction k generalizing u with
  | zero => intro b hb; simp [lowL] at hb
  | succ k ih =>
    intro b hb
    simp only [lowL, List.mem_cons] at hb
    rcases hb with rfl | hb
    · omega
    · exact ih _ b hb

theorem B256_pos (k : Nat) : 1 ≤ B256 k := by
  induction k with
  | zero => exact Int.le_refl _
  | succ k ih => simp only [B256]; omega

theorem valL_bound (l : List Int) (h : ∀ b ∈ l, 0 ≤ b ∧ b ≤ 255) : 0 ≤ valL l ∧ valL l < B256 l.length := by
  induction l with
  | nil => exact ⟨Int.le_refl _, by decide⟩
  | cons b r ih =>
    have h1 := ih fun x hx => h x (List.mem_cons_of_mem _ hx)
    have h2 := h b (List.mem_cons_self ..)
    simp only [valL, List.length_cons, B256]
    omega

theorem valL_snoc (l : List Int) (x : Int) : valL (l ++ [x]) = valL l + x * B256 l.length := by
  induction l with
  | nil => simp [valL, B256]
  | cons b r ih =>
    simp only [List.cons_append, valL, List.length_cons, B256, ih]
    rw [Int.mul_add, ← Int.mul_assoc, ← Int.mul_assoc, Int.mul_comm x 256]
    omega

theorem valL_low (k : Nat) (u : Int) (h : 0 ≤ u) (hk : u < B256 k) : valL (lowL k u) = u := by
  induction k generalizing u with
  | zero => simp only [B256] at hk; simp only [lowL, valL]; omega
  | succ k ih =>
    simp only [B256] at hk
    simp only [lowL, valL]
    rw [ih (u / 256) (by omega) (by omega)]
    omega

theorem low_valL (l : List Int) (h : ∀ b ∈ l, 0 ≤ b ∧ b ≤ 255) : lowL l.length (valL l) = l := by
  induction l with
  | nil => rfl
  | cons b r ih =>
    have h2 := h b (List.mem_cons_self ..)
    simp only [valL, List.length_cons, lowL]
    have e1 : (b + 256 * valL r) % 256 = b := by omega
    have e2 : (b + 256 * valL r) / 256 = valL r := by omega
    rw [e1, e2, ih fun x hx => h x (List.mem_cons_of_mem _ hx)]

theorem wid_lt (u : Int) (h0 : 0 ≤ u) (h : u < 18446744073709551616) : u < B256 (wid u) := by
  unfold wid
  repeat (first | (split; simp only [B256]; omega) | (simp only [B256]; omega))

theorem wid_bounds (u : Int) (h0 : 0 ≤ u) (h : u < 18446744073709551616) (k : Nat) (hk : wid u = k + 1) : B256 k ≤ u := by
  have h8 := wid_le u
  have hc : k = 0 ∨ k = 1 ∨ k = 2 ∨ k = 3 ∨ k = 4 ∨ k = 5 ∨ k = 6 ∨ k = 7 := by omega
  unfold wid at hk
  rcases hc with rfl | rfl | rfl | rfl | rfl | rfl | rfl | rfl <;> simp only [B256] <;> (repeat' split at hk) <;> omega

/-- A number whose k bytes are as few as will do. -/
theorem wid_of (u : Int) (k : Nat) (h1 : u < B256 (k + 1)) (h0 : B256 k ≤ u) (hk : k ≤ 7) : wid u = k + 1 := by
  have hc : k = 0 ∨ k = 1 ∨ k = 2 ∨ k = 3 ∨ k = 4 ∨ k = 5 ∨ k = 6 ∨ k = 7 := by omega
  unfold wid
  rcases hc with rfl | rfl | rfl | rfl | rfl | rfl | rfl | rfl <;> simp only [B256] at h0 h1 <;> (repeat' split) <;> omega

theorem B256_eq (k : Nat) : B256 k = ((2 ^ (8 * k) : Nat) : Int) := by
  induction k with
  | zero => rfl
  | succ k ih =>
    simp only [B256, ih]
    rw [show 8 * (k + 1) = 8 * k + 8 from by omega, Nat.pow_add]
    omega

theorem B256_mono (j k : Nat) (h : j ≤ k) : B256 j ≤ B256 k := by
  induction k with
  | zero => obtain rfl : j = 0 := by omega
            exact Int.le_refl _
  | succ k ih =>
    by_cases e : j = k + 1
    · subst e; exact Int.le_refl _
    · have := ih (by omega); have := B256_pos k; simp only [B256]; omega

theorem B256_8 : B256 8 = 18446744073709551616 := by rfl

/-- A byte that is laid above what is there. -/
theorem or_low (u x : Int) (k : Nat) (hk : k ≤ 7) (hu : 0 ≤ u) (hu2 : u < B256 k) (hx : 0 ≤ x) (hx2 : x ≤ 255) : bits .or .u64 u (x * B256 k) = u + x * B256 k := by
  have hm : B256 (k + 1) ≤ B256 8 := B256_mono _ _ (by omega)
  rw [B256_8] at hm
  have hpos := B256_pos k
  have hxb : x * B256 k ≤ 255 * B256 k := Int.mul_le_mul_of_nonneg_right hx2 (by omega)
  have hx0 : 0 ≤ x * B256 k := Int.mul_nonneg hx (by omega)
  simp only [B256] at hm
  rw [u64_or u _ hu (by omega) hx0 (by omega)]
  obtain ⟨a, rfl⟩ := Int.eq_ofNat_of_zero_le hu
  obtain ⟨b, rfl⟩ := Int.eq_ofNat_of_zero_le hx
  rw [B256_eq] at hu2 ⊢
  have e : ((b : Int) * ((2 ^ (8 * k) : Nat) : Int)).toNat = 2 ^ (8 * k) * b := by
    rw [← Int.natCast_mul, Int.toNat_natCast, Nat.mul_comm]
  rw [e, Int.toNat_natCast, Nat.or_comm, ← Nat.two_pow_add_eq_or_of_lt (by omega)]
  rw [Int.natCast_add, Int.natCast_mul, Int.mul_comm]
  omega

end Go.Proofs.YtdcmkapfcmibeaaDoor.Sh

/- What a slice value shows: 'Sees w k v zs', the numbers zs of kind k lie under the slice v in the world w; how that lasts. -/
namespace Go.Proofs.YtdcmkapfcmibeaaDoor.Sh
open Go.RowKit
set_option maxRecDepth 100000

def Sees (w : World) (k : IntKind) (v : Value) (zs : List Int) : Prop :=
  ∃ ao cap, v = .slice ao zs.length cap ∧ zs.length ≤ cap ∧ (ao = none → cap = 0) ∧ ∀ a, ao = some a → ∀ t, t < zs.length → w.cell? (a.add t) = some (.int k (zs.getD t 0))

/-- Numbers of one kind as cells. -/
def ints (k : IntKind) (l : List Int) : List Value := l.map (Value.int k)
theorem ints_append (k : IntKind) (a b : List Int) : ints k (a ++ b) = ints k a ++ ints k b := List.map_append
theorem ints_one (k : IntKind) (x : Int) : ints k [x] = [.int k x] := rfl
theorem ints_length (k : IntKind) (l : List Int) : (ints k l).length = l.length := List.length_map ..
theorem ints_get {k : IntKind} {l : List Int} {j : Nat} {u : Value} (h : (ints k l)[j]? = some u) : j < l.length ∧ u = .int k (l.getD j 0) := by
  simp only [ints, List.getElem?_map, Option.map_eq_some_iff] at h
  obtain ⟨x, hx, rfl⟩ := h
  have := (List.getElem?_eq_some_iff.1 hx).1
  exact ⟨this, by simp [List.getD, hx]⟩
theorem ints_cell (k : IntKind) (l : List Int) : ∀ u ∈ ints k l, u.oneCell' = true := by
  intro u hu
  simp only [ints, List.mem_map] at hu
  obtain ⟨x, _, rfl⟩ := hu
  rfl

theorem Sees.keep {w w' : World} {k : IntKind} {v : Value} {zs : List Int} (h : Sees w k v zs) (hc : ∀ p x, w.cell? p = some x → w'.cell? p = some x) : Sees w' k v zs := by
  obtain ⟨ao, cap, hv, hl, hn, ha⟩ := h
  exact ⟨ao, cap, hv, hl, hn, fun a e t ht => hc _ _ (ha a e t ht)⟩

theorem Sees.below {w w' : World} {k : IntKind} {v : Value} {zs : List Int} (h : Sees w k v zs) (hb : Below w.heap.size w w') : Sees w' k v zs :=
  h.keep fun p _ hp => (hb.cell (World.block_lt_of_cell? w p hp)).trans hp

theorem Sees.nil (w : World) (k : IntKind) : Sees w k (.slice none 0 0) [] := ⟨none, 0, rfl, Nat.le_refl _, fun _ => rfl, fun a h => by cases h⟩

theorem sees_of_own {w : World} {base e : Nat} {k : IntKind} {v : Value} {n : Nat} {xs : List Int} (h : w.ownsRow base e 1 v n (ints k xs)) : n = xs.length ∧ Sees w k v xs := by
  have hl : xs.length = n := by have := h.1; rw [ints_length] at this; omega
  subst hl
  refine ⟨rfl, ?_⟩
  have h' := h
  rcases h.2 with ⟨rfl, hn⟩ | ⟨g, cap, cur, rfl, hb, hg, hnc, hcm, hcs, htake⟩
  · obtain rfl := List.length_eq_zero_iff.1 hn
    exact Sees.nil w k
  · refine ⟨_, cap, rfl, hnc, (fun e => by cases e), fun a e t ht => ?_⟩
    obtain rfl := Option.some.inj e
    have := h'.cells (g := g) rfl t (.int k (xs.getD t 0)) (by simp [ints, List.getD, ht])
    exact this

/-- A new block of one's own numbers, whole. -/
theorem sees_new (w : World) (k : IntKind) (zs : List Int) (e : TypeId) (n : Nat) (hn : n = zs.length) : Sees (w.alloc (.cells (ints k zs).toArray e)) k (.slice (some ⟨w.heap.size, 0, none⟩) n n) zs := by
  subst hn
  refine ⟨_, zs.length, rfl, Nat.le_refl _, (fun h => by cases h), fun a h t ht => ?_⟩
  obtain rfl := Option.some.inj h
  have hadd : (⟨w.heap.size, 0, none⟩ : Addr).add t = ⟨w.heap.size, t, none⟩ := by unfold Addr.add; split <;> simp_all
  rw [hadd, cell_of_row _ w.heap.size t _ e (0, 0) (heap_alloc_new w _)]
  simp [ints, List.getD, ht]

theorem own_block_le {w : World} {base : Nat} {e size : Nat} {v : Value} {n : Nat} {xs : List Value} (h : w.ownsRow base e size v n xs) : ∀ k, v.ownBlock = some k → base ≤ k := fun k hk => (h.lt k hk).1

/-- Below 'base' all is as it was; and so is each block of numbers of type 2 (int64), wherever it lies. -/
structure Keeps (base : Nat) (w w' : World) : Prop where
  below : Below base w w'
  nums : ∀ (k : Nat) (cur : Array Value) (m : Nat × Nat), w.heap[k]? = some (Obj.cells cur 2 m) → w'.heap[k]? = some (Obj.cells cur 2 m)

theorem Keeps.refl (base : Nat) (w : World) : Keeps base w w := ⟨Below.refl _ _, fun _ _ _ h => h⟩
theorem Keeps.trans {base : Nat} {a b c : World} (h : Keeps base a b) (g : Keeps base b c) : Keeps base a c := ⟨h.below.trans g.below, fun k cur m e => g.nums k cur m (h.nums k cur m e)⟩
theorem Keeps.alloc {base : Nat} {a w : World} (h : Keeps base a w) (hb : base ≤ w.heap.size) (o : Obj) : Keeps base a (w.alloc o) :=
  h.trans ⟨(Below.refl _ _).alloc hb o, fun k cur m e => by rw [Below.heap_alloc w o k (Array.getElem?_eq_some_iff.1 e).1]; exact e⟩
theorem Keeps.drew {base : Nat} {a w : World} (h : Keeps base a w) : Keeps base a w.drew := ⟨h.below.drew, h.nums⟩
theorem Keeps.grown {base : Nat} {a w w' : World} {v : Value} {n : Nat} {xs : List Value} (h : Keeps base a w) (ho : w.ownsRow base 5 1 v n xs) (hg : w.grownBy w' v.ownBlock) (hb : base ≤ w.heap.size) : Keeps base a w' :=
  h.trans ⟨(Below.refl _ _).grown hg hb (own_block_le ho), fun k cur m e => by
    rw [hg.block k (Array.getElem?_eq_some_iff.1 e).1 ?_]
    · exact e
    · intro hk
      rcases ho.2 with ⟨rfl, _⟩ | ⟨g, cap, cur', rfl, _, hgg, _⟩
      · simp [Value.ownBlock] at hk
      · simp [Value.ownBlock] at hk
        subst hk
        rw [hgg] at e
        simp at e⟩

/-- A cell that lies below 'base' or in a block of int64s. -/
def Apart (w : World) (base : Nat) (p : Addr) : Prop := p.block < base ∨ ∃ (cur : Array Value) (m : Nat × Nat), w.heap[p.block]? = some (Obj.cells cur 2 m)
theorem Keeps.cell {base : Nat} {w w' : World} (h : Keeps base w w') {p : Addr} (ha : Apart w base p) : w'.cell? p = w.cell? p ∧ Apart w' base p := by
  rcases ha with ha | ⟨cur, m, e⟩
  · exact ⟨h.below.cell ha, .inl ha⟩
  · have e' := h.nums _ _ _ e
    exact ⟨World.cell?_of_block (e'.trans e.symm), .inr ⟨cur, m, e'⟩⟩

theorem own_mono {w : World} {base base' : Nat} {e size : Nat} {v : Value} {n : Nat} {xs : List Value} (h : w.ownsRow base e size v n xs) (hb : base' ≤ base) : w.ownsRow base' e size v n xs := by
  refine ⟨h.1, ?_⟩
  rcases h.2 with hn | ⟨g, cap, cur, hv, hg, rest⟩
  · exact .inl hn
  · exact .inr ⟨g, cap, cur, hv, Nat.le_trans hb hg, rest⟩

/-- The same, all of it below block number B. -/
def SeesB (B : Nat) (w : World) (k : IntKind) (v : Value) (zs : List Int) : Prop :=
  ∃ ao cap, v = .slice ao zs.length cap ∧ zs.length ≤ cap ∧ (ao = none → cap = 0) ∧ ∀ a, ao = some a → ∀ t, t < zs.length → w.cell? (a.add t) = some (.int k (zs.getD t 0)) ∧ (a.add t).block < B

theorem SeesB.sees {B : Nat} {w : World} {k : IntKind} {v : Value} {zs : List Int} (h : SeesB B w k v zs) : Sees w k v zs := by
  obtain ⟨ao, cap, hv, hl, hn, ha⟩ := h
  exact ⟨ao, cap, hv, hl, hn, fun a e t ht => (ha a e t ht).1⟩
theorem SeesB.mono {B B' : Nat} {w : World} {k : IntKind} {v : Value} {zs : List Int} (h : SeesB B w k v zs) (hb : B ≤ B') : SeesB B' w k v zs := by
  obtain ⟨ao, cap, hv, hl, hn, ha⟩ := h
  exact ⟨ao, cap, hv, hl, hn, fun a e t ht => ⟨(ha a e t ht).1, Nat.lt_of_lt_of_le (ha a e t ht).2 hb⟩⟩
theorem Sees.upto {w : World} {k : IntKind} {v : Value} {zs : List Int} (h : Sees w k v zs) : SeesB w.heap.size w k v zs := by
  obtain ⟨ao, cap, hv, hl, hn, ha⟩ := h
  exact ⟨ao, cap, hv, hl, hn, fun a e t ht => ⟨ha a e t ht, World.block_lt_of_cell? w _ (ha a e t ht)⟩⟩
theorem SeesB.below {B B' : Nat} {w w' : World} {k : IntKind} {v : Value} {zs : List Int} (h : SeesB B w k v zs) (hb : Below B' w w') (hle : B ≤ B') : SeesB B w' k v zs := by
  obtain ⟨ao, cap, hv, hl, hn, ha⟩ := h
  exact ⟨ao, cap, hv, hl, hn, fun a e t ht => ⟨(hb.cell (Nat.lt_of_lt_of_le (ha a e t ht).2 hle)).trans (ha a e t ht).1, (ha a e t ht).2⟩⟩

theorem add_add (a : Addr) (p t : Nat) : (a.add p).add t = a.add (p + t) := by
  unfold Addr.add
  by_cases hp : p = 0
  · subst hp; simp
  · by_cases ht : t = 0
    · subst ht; simp [hp]
    · simp [hp, ht, Nat.add_assoc]

/-- A piece of what is seen. -/
theorem SeesB.cut {B : Nat} {w : World} {k : IntKind} {ao : Option Addr} {cap : Nat} {zs : List Int} (h : SeesB B w k (.slice ao zs.length cap) zs) (p n : Nat) (hp : p + n ≤ zs.length) :
    SeesB B w k (.slice (if cap = p then ao else ao.map (·.add p)) n (cap - p)) ((zs.drop p).take n) := by
  obtain ⟨ao', cap', hv, hl, hn, ha⟩ := h
  simp only [Value.slice.injEq, true_and] at hv
  obtain ⟨rfl, rfl⟩ := hv
  have hlen : ((zs.drop p).take n).length = n := by simp; omega
  refine ⟨_, cap - p, by rw [hlen], by rw [hlen]; omega, ?_, ?_⟩
  · intro h
    split at h
    · omega
    · cases ao with
      | none => have := hn rfl; omega
      | some a => simp at h
  · intro a h t ht
    rw [hlen] at ht
    rw [if_neg (by omega)] at h
    cases ao with
    | none => simp at h
    | some b =>
      simp only [Option.map_some, Option.some.injEq] at h
      subst h
      have := ha b rfl (p + t) (by omega)
      rw [add_add]
      refine ⟨?_, this.2⟩
      rw [this.1]
      simp [List.getD, ht, List.getElem?_drop]

/-- Numbers that are bytes. -/
def Byt (l : List Int) : Prop := ∀ b ∈ l, 0 ≤ b ∧ b ≤ 255
theorem Byt.append {a b : List Int} (ha : Byt a) (hb : Byt b) : Byt (a ++ b) := fun x hx => (List.mem_append.1 hx).elim (ha x) (hb x)
theorem Byt.drop {a : List Int} (ha : Byt a) (k : Nat) : Byt (a.drop k) := fun x hx => ha x (List.mem_of_mem_drop hx)
theorem Byt.take {a : List Int} (ha : Byt a) (k : Nat) : Byt (a.take k) := fun x hx => ha x (List.mem_of_mem_take hx)
theorem Byt.get {l : List Int} (h : Byt l) (t : Nat) : 0 ≤ l.getD t 0 ∧ l.getD t 0 ≤ 255 := by
  by_cases ht : t < l.length
  · have := h (l.getD t 0) (by simp [List.getD, ht])
    exact this
  · simp [List.getD, List.getElem?_eq_none (Nat.le_of_not_lt ht)]

/-- Bytes as a string. -/
def strOf (l : List Int) : ByteArray := ⟨(l.map fun n => UInt8.ofNat n.toNat).toArray⟩
theorem strOf_inj {a b : List Int} (ha : Byt a) (hb : Byt b) (h : strOf a = strOf b) : a = b := by
  simp only [strOf, ByteArray.mk.injEq] at h
  have h' := congrArg Array.toList h
  simp only at h'
  clear h
  induction a generalizing b with
  | nil => cases b with
    | nil => rfl
    | cons y r => simp at h'
  | cons x r ih => cases b with
    | nil => simp at h'
    | cons y q =>
      simp only [List.map_cons, List.cons.injEq] at h'
      have hx := ha x (List.mem_cons_self ..)
      have hy := hb y (List.mem_cons_self ..)
      have e := congrArg UInt8.toNat h'.1
      simp only [UInt8.toNat_ofNat'] at e
      have e' : x = y := by omega
      rw [e', ih (fun z hz => ha z (List.mem_cons_of_mem _ hz)) (fun z hz => hb z (List.mem_cons_of_mem _ hz)) h'.2]

theorem run_conv_sees {P : Program} (w : World) (src dst e : TypeId) (v : Value) (xs : List Int) (hs : P.underlying src = some (.slice e)) (he : P.underlying e = some (.int .u8)) (hd : P.underlying dst = some .string)
    (hv : Sees w .u8 v xs) (hb : Byt xs) : (convert src dst v).run P w = .ok (.string (strOf xs)) w := by
  obtain ⟨ao, cap, rfl, hl, hn, hc⟩ := hv
  cases ao with
  | none =>
    obtain rfl := hn rfl
    obtain rfl : xs = [] := List.length_eq_zero_iff.1 (by omega)
    simp only [List.length_nil]
    rw [run_convert_bytes_string w src dst e none 0 0 hs he hd]
    simp [Conv.bytesToString]
    rfl
  | some a =>
    have := run_convert_bytes_back (P := P) w src dst e a cap (xs.map fun n => UInt8.ofNat n.toNat) hs he hd (fun j hj => by
      have hj' : j < xs.length := by simpa using hj
      rw [hc a rfl j hj']
      have hbj := hb.get j
      simp [List.getD, hj'] at hbj ⊢
      omega)
    rw [List.length_map] at this
    exact this

end Go.Proofs.YtdcmkapfcmibeaaDoor.Sh

/- More on memory: appending what is seen to a row of one's own; a row of one element. -/
namespace Go.Proofs.YtdcmkapfcmibeaaDoor.Sh
open Go.RowKit
set_option maxRecDepth 100000

theorem grownBy_refl (w : World) (r : Option Nat) : w.grownBy w r := ⟨rfl, rfl, rfl, Nat.le_refl _, fun _ _ _ => rfl⟩

/-- append(s, x...) where s is the call's own and x is whatever slice of integers that is seen, nil too. -/
theorem wpList_append_sees {P : Program} {w : World} {ops : Array Oper} {rest : List Oper} {o : Oper} {a : Act} {Q : Exit → Act → World → Prop} (hgd : o.guard = none) (s x : Operand) (t : TypeId)
    (ho : o.op = .call { callee := .builtin .append, args := #[s, x], argTypes := #[t, t] })
    (base : Nat) (e : TypeId) (i : TypeInfo) (z : Value) (bytes : Nat) (ht : P.underlying t = some (.slice e)) (hi : P.info? e = some i) (hz : i.zero = some z)
    (hsize : i.size = 1) (hby : i.bytes = bytes) (hzs : z.cells.size = 1)
    (v : Value) (n : Nat) (xs : List Value) (hs : a.eval s = v) (hown : w.ownsRow base e 1 v n xs)
    (k : IntKind) (sv : Value) (zs : List Int) (hx : a.eval x = sv) (hsee : Sees w k sv zs)
    (h63 : n + zs.length ≤ maxLen) (hbytes : (n + zs.length) * bytes ≤ 140737488355328) (hbase : base ≤ w.heap.size)
    (h : ∀ v' w', w'.ownsRow base e 1 v' (n + zs.length) (xs ++ ints k zs) → w.grownBy w' v.ownBlock → wpList P ops Q rest (a.put o.dst v') w') : wpList P ops Q (o :: rest) a w := by
  obtain ⟨ao, cap, rfl, hl, hnil, hc⟩ := hsee
  cases ao with
  | none =>
    obtain rfl := hnil rfl
    obtain rfl : zs = [] := List.length_eq_zero_iff.1 (by omega)
    refine wpList_append_own_none hgd s x t ho base e i 1 ht hi v n xs hs hown hx ?_
    exact h v w (by simpa [ints] using hown) (grownBy_refl _ _)
  | some ad =>
    refine wpList_append_own w hgd s x t ho base e i z 1 bytes ht hi hz hsize hby hzs (by decide) v n xs hs hown ad zs.length cap (ints k zs) hx (by rw [ints_length]; omega) (fun j u hu => ?_) (ints_cell _ _) h63 hbytes hbase ?_
    · obtain ⟨hj, rfl⟩ := ints_get hu
      exact hc ad rfl j hj
    · intro v' w' ho' hg _
      exact h v' w' ho' hg

/-- A slice literal's row. -/
theorem own_new (w : World) (k : IntKind) (zs : List Int) (e : TypeId) (base n : Nat) (hn : n = zs.length) (hb : base ≤ w.heap.size) (hm : n ≤ maxLen) :
    (w.alloc (.cells (ints k zs).toArray e)).ownsRow base e 1 (.slice (some ⟨w.heap.size, 0, none⟩) n n) n (ints k zs) := by
  subst hn
  refine ⟨by rw [ints_length]; omega, .inr ⟨w.heap.size, zs.length, _, rfl, hb, heap_alloc_new w _, Nat.le_refl _, hm, by simp [ints], ?_⟩⟩
  simp only [Nat.mul_one]
  exact List.take_of_length_le (by rw [ints_length]; omega)

theorem own_drew {w : World} {base e size : Nat} {v : Value} {n : Nat} {xs : List Value} (h : w.ownsRow base e size v n xs) : w.drew.ownsRow base e size v n xs := h

/-- What is owned is still owned where nothing below the heap's end has turned. -/
theorem own_below {w w' : World} {base e size : Nat} {v : Value} {n : Nat} {xs : List Value} (h : w.ownsRow base e size v n xs) (hb : Below w.heap.size w w') : w'.ownsRow base e size v n xs := by
  refine ⟨h.1, ?_⟩
  rcases h.2 with hn | ⟨g, cap, cur, hv, hg, hh, r⟩
  · exact .inl hn
  · exact .inr ⟨g, cap, cur, hv, hg, (hb.block g (Array.getElem?_eq_some_iff.1 hh).1).trans hh, r⟩

theorem own_shape {w : World} {base e : Nat} {v : Value} {n : Nat} {xs : List Value} (h : w.ownsRow base e 1 v n xs) : ∃ ao cap, v = .slice ao n cap := by
  rcases h.2 with ⟨rfl, rfl⟩ | ⟨g, cap, cur, rfl, _⟩
  · exact ⟨none, 0, rfl⟩
  · exact ⟨_, cap, rfl⟩

end Go.Proofs.YtdcmkapfcmibeaaDoor.Sh
