/- Contracts of the smallest functions of package shape: must, magnitude, width and bits.Len64. -/
import Derived.Test.YtoddemcmmijoaaaProg
import Derived.Test.YtoddemcmmijoaaaMath
import Derived.WalkKit
import Derived.WalkSpells
import Derived.WalkLawsBesides
import Derived.Lib.BitFns
namespace Go.Proofs.Ytoddemcmmijoaaa
open Go.RowKit
set_option maxRecDepth 100000

theorem ret_int {k : IntKind} {a b : Int} (h : a = b) : Ending.returned (.int k a) = .returned (.int k b) := by rw [h]

theorem mag_u64 (x : Int) (h : x < 0) (h2 : -9223372036854775808 ≤ x) : IntKind.u64.wrap (-IntKind.u64.wrap x) = mag x := by
  simp only [IntKind.wrap_u64, mag]; split <;> omega
theorem len8_fin : ∀ y : Fin 256, 0 ≤ Lib.len8 (y.val : Int) ∧ Lib.len8 (y.val : Int) ≤ 8 ∧ (y.val = 0 → Lib.len8 (y.val : Int) = 0) ∧ (y.val ≠ 0 → 1 ≤ Lib.len8 (y.val : Int)) := by decide +kernel
theorem len8_facts (y : Int) (h0 : 0 ≤ y) (h1 : y ≤ 255) : 0 ≤ Lib.len8 y ∧ Lib.len8 y ≤ 8 ∧ (y = 0 → Lib.len8 y = 0) ∧ (y ≠ 0 → 1 ≤ Lib.len8 y) := by
  have h := len8_fin ⟨y.toNat, by omega⟩
  simp only [Int.toNat_of_nonneg h0] at h
  exact ⟨h.1, h.2.1, fun e => h.2.2.1 (by omega), fun e => h.2.2.2 (by omega)⟩

theorem len8_get (y : Int) (h : y.toNat < Lib.len8tab.size) : ((Lib.len8tab[y.toNat]'h).toNat : Int) = Lib.len8 y := by
  unfold Lib.len8
  rw [getElem?_pos Lib.len8tab y.toNat h]
  rfl

theorem len_fin (x y : Int) (k : Nat) (h : y.toNat < Lib.len8tab.size) (h0 : 1 ≤ y) (h1 : y ≤ 255) (hk : k ≤ 7) (hw : wid x = k + 1) (c : Int) (hc : c = 8 * k) :
    0 ≤ wrap64 (c + wrap64 ↑(Lib.len8tab[y.toNat]'h).toNat) ∧ wrap64 (c + wrap64 ↑(Lib.len8tab[y.toNat]'h).toNat) ≤ 64 ∧ (wrap64 (c + wrap64 ↑(Lib.len8tab[y.toNat]'h).toNat) + 7) / 8 = ↑(wid x) := by
  obtain ⟨a, b, _, d⟩ := len8_facts y (by omega) h1
  have d' := d (by omega)
  rw [len8_get y h, hw]
  subst hc
  unfold wrap64
  omega

theorem len_fin0 (x : Int) (h : x.toNat < Lib.len8tab.size) (h0 : 0 ≤ x) (h1 : x ≤ 255) :
    0 ≤ wrap64 (wrap64 ↑(Lib.len8tab[x.toNat]'h).toNat) ∧ wrap64 (wrap64 ↑(Lib.len8tab[x.toNat]'h).toNat) ≤ 64 ∧ (wrap64 (wrap64 ↑(Lib.len8tab[x.toNat]'h).toNat) + 7) / 8 = ↑(wid x) := by
  obtain ⟨a, b, c, d⟩ := len8_facts x h0 h1
  have hw : wid x = if x < 1 then 0 else 1 := by unfold wid; split; rfl; rw [if_pos (by omega)]
  rw [len8_get x h, hw]
  unfold wrap64
  split
  · have := c (by omega); omega
  · have := d (by omega); omega

theorem wid_cut (x : Int) (k : Nat) (hk : k ≤ 7) (h1 : x < B256 (k + 1)) (h0 : B256 k ≤ x) : wid x = k + 1 := wid_of x k h1 h0 hk

theorem quo8 (n : Int) (h0 : 0 ≤ n) (h1 : n ≤ 64) : (n + 7).tdiv 8 = (n + 7) / 8 := Int.tdiv_eq_ediv_of_nonneg (by omega)

end Go.Proofs.Ytoddemcmmijoaaa
