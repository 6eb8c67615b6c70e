/- What FormOwn's walk leans on: rows of the call's own, in loops. -/
import Derived.Test.YthdghnppledakabWB
import Derived.Test.YthdghnppledakabWG
import Derived.Test.YthdghnppledakabWJ
import Derived.Test.YthdghnppledakabR0
import Derived.Test.YthdghnppledakabNumsW
namespace Go.Proofs.Ythdghnppledakab
open Go.RowKit

/-- Bytes of the call's own, n of them, under the slice y; all below B is as in w0. -/
def Inv (B : Nat) (w0 : World) (y : Value) (n : Nat) (wr : World) : Prop :=
  ∃ ys : List Int, ys.length = n ∧ Byt ys ∧ wr.ownsRow B 5 1 y n (ints .u8 ys) ∧ Below B w0 wr

theorem Inv.step {B : Nat} {w0 : World} {ao : Option Addr} {n cap : Nat} {wr : World} (h : Inv B w0 (.slice ao n cap) n wr) (hB : B ≤ wr.heap.size) (j : Nat) (hj : j < n) :
    ∃ g u, ao = some ⟨g, 0, none⟩ ∧ wr.cell? ⟨g, j, none⟩ = some (.int .u8 u) ∧ 0 ≤ u ∧ u ≤ 255 ∧ wr.frozen? ⟨g, j, none⟩ = false ∧ ∀ v, 0 ≤ v → v ≤ 255 → Inv B w0 (.slice ao n cap) n (wr.setCell ⟨g, j, none⟩ (.int .u8 v)) := by
  obtain ⟨ys, hl, hby, ho, hb⟩ := h
  have ho' := ho
  rcases ho'.2 with ⟨_, h0⟩ | ⟨g, cp, cur, hv, hgb, _⟩
  · omega
  simp only [Value.slice.injEq, true_and] at hv
  obtain ⟨rfl, rfl⟩ := hv
  have hu := hby.get j
  refine ⟨g, ys.getD j 0, rfl, ?_, hu.1, hu.2, ho.frozenAt j, fun v h0 h1 => ?_⟩
  · have := ho.cells (g := g) rfl j (.int .u8 (ys.getD j 0)) (by simp [ints, List.getD, hl, hj])
    have hadd : (⟨g, 0, none⟩ : Addr).add j = ⟨g, j, none⟩ := by unfold Addr.add; split <;> simp_all
    rw [hadd] at this
    exact this
  · obtain ⟨h2, h3⟩ := ho.stored j (.int .u8 v)
    refine ⟨ys.set j v, by rw [List.length_set]; exact hl, fun x hx => ?_, ?_, hb.grown h3 hB (by intro k hk; obtain rfl := Option.some.inj hk; exact hgb)⟩
    · rcases List.mem_or_eq_of_mem_set hx with hx | rfl
      · exact hby x hx
      · exact ⟨h0, h1⟩
    · rw [show ints .u8 (ys.set j v) = (ints .u8 ys).set j (.int .u8 v) by simp [ints, List.map_set]]
      exact h2

theorem Inv.of {B B' : Nat} {w0 w w' : World} {y : Value} {ys : List Int} {n : Nat} (hn : n = ys.length) (ho : w'.ownsRow B' 5 1 y n (ints .u8 ys)) (hby : Byt ys) (hB : B ≤ B') (hb : Below B w0 w) (hb' : Below B' w w') : Inv B w0 y n w' :=
  ⟨ys, hn.symm, hby, own_mono ho hB, hb.trans (hb'.mono hB)⟩

theorem xor255 (u : Int) (h0 : 0 ≤ u) (h1 : u ≤ 255) : 0 ≤ bits .xor .u8 u 255 ∧ bits .xor .u8 u 255 ≤ 255 := by
  rw [u8_xor u 255 h0 (by omega) (by omega) (by omega)]
  have : u.toNat ^^^ (255 : Int).toNat < 2 ^ 8 := Nat.xor_lt_two_pow (by omega) (by decide)
  omega

theorem tb_byte (l : List Int) (hl : Byt l) : Byt (tb l).1 ∧ (tb l).1.length ≤ l.length := by
  unfold tb
  by_cases c1 : (tn l).2.2 ≠ 0
  · rw [if_pos c1]; exact ⟨(fun b hb => by cases hb), by simp⟩
  rw [if_neg c1]
  by_cases c2 : (tn l).1 < 0
  · rw [if_pos c2]; exact ⟨(fun b hb => by cases hb), by simp⟩
  rw [if_neg c2]
  by_cases c3 : (l.length : Int) - (tn l).2.1 < (tn l).1
  · rw [if_pos c3]; exact ⟨(fun b hb => by cases hb), by simp⟩
  rw [if_neg c3]
  exact ⟨(hl.drop _).take _, by simp; omega⟩

theorem sealB_byte (zs : List Int) (h : Byt zs) : Byt (sealB zs) := ((putL_byte _).append h).append (lowL_byte 8 _)

/-- Seal, long or not. -/
theorem seal_any (bv : Value) (zs : List Int) (w : World) (hs : Sees w .u8 bv zs) (hby : Byt zs) (hm : zs.length ≤ 140737488355328) :
    Calls Try.prog 8 #[bv] w fun e w' => ∃ x er ys, e = .returned (.tuple #[x, .int .i64 er]) ∧ Byt ys ∧ ys.length ≤ 1048600 ∧ w'.ownsRow w.heap.size 5 1 x ys.length (ints .u8 ys) ∧ Below w.heap.size w w' := by
  by_cases h : zs.length ≤ 1048576
  · refine (seal_ok bv zs w hs hby h).mono ?_
    rintro e w' ⟨x, rfl, ho, hb⟩
    have h9 := sizeL_le [(zs.length : Int)]
    simp only [List.length_singleton] at h9
    have hsl : (sealB zs).length = sizeL [(zs.length : Int)] + zs.length + 8 := by simp only [sealB, List.length_append, putL_length, lowL_length]
    exact ⟨x, 0, sealB zs, rfl, sealB_byte zs hby, by omega, ho, hb⟩
  · obtain ⟨ao, cap, rfl, _⟩ := hs
    refine (seal_long ao zs.length cap w (by omega) hm).mono ?_
    rintro e w' ⟨rfl, rfl⟩
    exact ⟨_, 3, [], rfl, (fun b hb => by cases hb), by simp, World.ownsRow_nil _ _ _ _, Below.refl _ _⟩

end Go.Proofs.Ythdghnppledakab
