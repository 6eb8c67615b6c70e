/- Clone. -/
import Derived.Test.YtiijbklaapaheabM8
import Derived.Deep.RegionWith
namespace Go.Proofs.Ytiijbklaapaheab
open Go.RowKit
set_option maxRecDepth 100000

/-- A flash's blocks, cell by cell. -/
def Fl.cellAt (F : Fl) (t : Nat) : Value :=
  if t % 33 = 32 then .int .i64 (F.wear (t / 33)) else if t % 33 % 2 = 0 then .int .i64 (F.st (t / 33) (t % 33 / 2)) else .string (F.bs (t / 33) (t % 33 / 2))
def Fl.cellsL (F : Fl) : List Value := (List.range (F.n * 33)).map F.cellAt
theorem cellsL_length (F : Fl) : F.cellsL.length = F.n * 33 := by simp [Fl.cellsL]
theorem cellsL_at (F : Fl) (t : Nat) (h : t < F.n * 33) : F.cellsL[t]? = some (F.cellAt t) := by
  unfold Fl.cellsL
  rw [List.getElem?_map, List.getElem?_range h]
  rfl
theorem cellAt_st (F : Fl) (i j : Nat) (hj : j < 16) : F.cellAt (i * 33 + j * 2) = .int .i64 (F.st i j) := by
  have a : (i * 33 + j * 2) % 33 = j * 2 := by omega
  have b : (i * 33 + j * 2) / 33 = i := by omega
  unfold Fl.cellAt
  rw [a, b, if_neg (by omega), if_pos (by omega), show j * 2 / 2 = j by omega]
theorem cellAt_bs (F : Fl) (i j : Nat) (hj : j < 16) : F.cellAt (i * 33 + j * 2 + 1) = .string (F.bs i j) := by
  have a : (i * 33 + j * 2 + 1) % 33 = j * 2 + 1 := by omega
  have b : (i * 33 + j * 2 + 1) / 33 = i := by omega
  unfold Fl.cellAt
  rw [a, b, if_neg (by omega), if_neg (by omega), show (j * 2 + 1) / 2 = j by omega]
theorem cellAt_wear (F : Fl) (i : Nat) : F.cellAt (i * 33 + 32) = .int .i64 (F.wear i) := by
  have a : (i * 33 + 32) % 33 = 32 := by omega
  have b : (i * 33 + 32) / 33 = i := by omega
  unfold Fl.cellAt
  rw [a, b, if_pos rfl]
theorem IsFl.cellAt {w : World} {g h cap : Nat} {F : Fl} (H : IsFl w g h cap F) (t : Nat) (ht : t < F.n * 33) : w.cell? ⟨g, t, none⟩ = some (F.cellAt t) := by
  obtain ⟨i, r, rfl, hr⟩ : ∃ i r, t = i * 33 + r ∧ r < 33 := ⟨t / 33, t % 33, by omega, by omega⟩
  by_cases h32 : r = 32
  · subst h32
    rw [cellAt_wear]; exact H.wear i (by omega)
  · by_cases h2 : r % 2 = 0
    · obtain ⟨j, rfl⟩ : ∃ j, r = j * 2 := ⟨r / 2, by omega⟩
      rw [cellAt_st F i j (by omega)]; exact H.st i j (by omega) (by omega)
    · obtain ⟨j, rfl⟩ : ∃ j, r = j * 2 + 1 := ⟨r / 2, by omega⟩
      rw [← Nat.add_assoc, cellAt_bs F i j (by omega)]; exact H.bs i j (by omega) (by omega)
theorem cellsL_one (F : Fl) : ∀ u ∈ F.cellsL, u.oneCell' = true := by
  intro u hu
  simp only [Fl.cellsL, List.mem_map] at hu
  obtain ⟨t, _, rfl⟩ := hu
  unfold Fl.cellAt
  (repeat' split) <;> rfl

end Go.Proofs.Ytiijbklaapaheab
