/- Several texts as one. -/
import Derived.Test.YtoddemcmmijoaaaKS
import Derived.Deep.RegionWith

/- Contracts of the reader: next, low, number, told of what the reader sees. -/
namespace Go.Proofs.Ytoddemcmmijoaaa
open Go.RowKit
set_option maxRecDepth 100000

/-- A reader: the bytes that it reads, and how far it is. -/
def AtR (w : World) (R : Nat) (v : Value) (p : Nat) : Prop := w.heap[R]? = some (.cells #[v, .int .i64 p] 152 (0, 0))
theorem AtR.c0 {w : World} {R : Nat} {v : Value} {p : Nat} (h : AtR w R v p) : w.cell? ⟨R, 0, none⟩ = some v := by rw [cell_of_row w R 0 _ _ _ h]; rfl
theorem AtR.c1 {w : World} {R : Nat} {v : Value} {p : Nat} (h : AtR w R v p) : w.cell? ⟨R, 1, none⟩ = some (.int .i64 p) := by rw [cell_of_row w R 1 _ _ _ h]; rfl
theorem AtR.f1 {w : World} {R : Nat} {v : Value} {p : Nat} (h : AtR w R v p) : w.frozen? ⟨R, 1, none⟩ = false := frozen_of_row w R 1 _ _ h
theorem AtR.set {w : World} {R : Nat} {v : Value} {p : Nat} (h : AtR w R v p) (j k q : Nat) : AtR (((w.drewN j).setCell ⟨R, 1, none⟩ (.int .i64 q)).drewN k) R v q := by
  have h' : (w.drewN j).heap[R]? = some (.cells #[v, .int .i64 p] 152 (0, 0)) := h
  have := heap_setCell_same (w.drewN j) R 1 _ 152 (.int .i64 q) h'
  exact this
theorem below_set (w : World) (R : Nat) (x : Value) (j k : Nat) : Below R w (((w.drewN j).setCell ⟨R, 1, none⟩ x).drewN k) := by
  have h1 : Below R w (w.drewN j) := below_drewN (Below.refl _ _) j
  exact below_drewN (h1.setCell (p := ⟨R, 1, none⟩) (Nat.le_refl _) x) k

/-- Nothing has turned but the reader, and no block is new. -/
def OnlyR (R : Nat) (w w' : World) : Prop := w'.heap.size = w.heap.size ∧ ∀ k, k ≠ R → w'.heap[k]? = w.heap[k]?
theorem OnlyR.trans {R : Nat} {a b c : World} (h : OnlyR R a b) (g : OnlyR R b c) : OnlyR R a c := ⟨g.1.trans h.1, fun k hk => (g.2 k hk).trans (h.2 k hk)⟩
theorem onlyR_set (w : World) (R : Nat) (x : Value) (j k : Nat) : OnlyR R w (((w.drewN j).setCell ⟨R, 1, none⟩ x).drewN k) :=
  ⟨by simp [World.setCell], fun i hi => Below.heap_setCell (w.drewN j) ⟨R, 1, none⟩ x i hi⟩

/-- How a reader gives up. -/
def GiveUp (er : Int) : Ending := .panicked [{ v := .iface 149 (.agg #[.int .i64 er]), recovered := false }]

/-- What a number's k bytes say, laid one above the other. -/
theorem valL_take_snoc (l : List Int) (k : Nat) (h : k < l.length) : valL (l.take (k + 1)) = valL (l.take k) + l.getD k 0 * B256 k := by
  rw [take_snoc l k h, valL_snoc]
  simp only [List.length_take, Nat.min_eq_left (Nat.le_of_lt h)]

theorem or_step (l : List Int) (hb : Byt l) (k : Nat) (h : k < l.length) (h8 : l.length ≤ 8) : bits .or .u64 (valL (l.take k)) (l.getD k 0 * B256 k) = valL (l.take (k + 1)) := by
  have hv := valL_bound (l.take k) (hb.take k)
  have hl : (l.take k).length = k := by simp; omega
  rw [hl] at hv
  have hg := hb.get k
  rw [or_low _ _ k (by omega) hv.1 hv.2 hg.1 hg.2, valL_take_snoc l k h]

theorem shl_byte (x : Int) (k : Nat) (hx : 0 ≤ x) (hx2 : x ≤ 255) (hk : k ≤ 7) : IntKind.u64.wrap (x * 2 ^ (8 * k)) = x * B256 k := by
  have e : (2 : Int) ^ (8 * k) = B256 k := by rw [B256_eq]; simp
  rw [e, IntKind.wrap_u64]
  have hm : B256 (k + 1) ≤ B256 8 := B256_mono _ _ (by omega)
  rw [B256_8] at hm
  have hpos := B256_pos k
  have hxb : x * B256 k ≤ 255 * B256 k := Int.mul_le_mul_of_nonneg_right hx2 (by omega)
  have hx0 : 0 ≤ x * B256 k := Int.mul_nonneg hx (by omega)
  simp only [B256] at hm
  omega

end Go.Proofs.Ytoddemcmmijoaaa

/- The contract of the reader's number. -/
namespace Go.Proofs.Ytoddemcmmijoaaa
open Go.RowKit
set_option maxRecDepth 100000

theorem neg_u (u : Int) (h0 : 0 ≤ u) (h1 : u ≤ 9223372036854775808) : wrap64 (IntKind.u64.wrap (-u)) = -u := by
  rw [IntKind.wrap_u64]; unfold wrap64; omega

/-- The number with which bytes begin, how many bytes it has, and what is wrong with them. -/
def tn : List Int → Int × Nat × Int
  | [] => (0, 0, 10)
  | h :: r =>
    if 17 < h ∨ h = 1 then (0, 0, 11)
    else if r.length < (h / 2).toNat then (0, 0, 10)
    else if wid (valL (r.take (h / 2).toNat)) ≠ (h / 2).toNat then (0, 0, 11)
    else if h % 2 = 1 then (if valL (r.take (h / 2).toNat) ≤ 9223372036854775808 then (-valL (r.take (h / 2).toNat), 1 + (h / 2).toNat, 0) else (0, 0, 11))
    else (if valL (r.take (h / 2).toNat) < 9223372036854775808 then (valL (r.take (h / 2).toNat), 1 + (h / 2).toNat, 0) else (0, 0, 11))

/-- What a reader's part answers: a value, and how far the reader is behind it; or it gives up. -/
def Reads (R : Nat) (v : Value) (p : Nat) (w : World) (er : Int) (k : Nat) (x : Value) (e : Ending) (w' : World) : Prop :=
  Below R w w' ∧ (er = 0 → e = .returned x ∧ AtR w' R v (p + k) ∧ OnlyR R w w') ∧ (er ≠ 0 → e = GiveUp er)

theorem reads_no {R : Nat} {v : Value} {p : Nat} {w : World} {er : Int} {k : Nat} {x : Value} {e : Ending} {w' : World} (hne : er ≠ 0) (h : e = GiveUp er ∧ Below R w w') : Reads R v p w er k x e w' :=
  ⟨h.2, fun h0 => absurd h0 hne, fun _ => h.1⟩

end Go.Proofs.Ytoddemcmmijoaaa
