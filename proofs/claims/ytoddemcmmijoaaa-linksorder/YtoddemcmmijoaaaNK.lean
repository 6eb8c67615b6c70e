/- Record: what is owned is seen, however long. -/
import Derived.Test.YtoddemcmmijoaaaKP
import Derived.Test.YtoddemcmmijoaaaKL
import Derived.Test.YtoddemcmmijoaaaKZ27
namespace Go.Proofs.Ytoddemcmmijoaaa
open Go.RowKit
set_option maxRecDepth 100000

theorem sees_keysN {w : World} {base : Nat} {v : Value} {l : List (Int × Int)} (h : w.ownsRow base 103 2 v l.length (keyCs l)) (hl : l.length ≤ 8796093021952) : SeesK w v l := by
  rcases h.2 with ⟨rfl, h0⟩ | ⟨g, cap, cur, rfl, hg, hh, hcap, _⟩
  · exact ⟨none, 0, 0, 0, by rw [h0], by omega, by omega, fun h => absurd h (by omega), fun t ht => absurd ht (by omega)⟩
  · have hat : ∀ t u, (keyCs l)[t]? = some u → w.cell? ⟨g, 0 + t, none⟩ = some u := by
      intro t u hu
      have := h.cells (g := g) rfl t u hu
      rwa [Addr.add_mid] at this
    exact ⟨some ⟨g, 0, none⟩, cap, g, 0, rfl, hcap, by omega, fun _ => rfl, fun t ht => ⟨hat _ _ (keyCs_at l t ht).1, by have := hat _ _ (keyCs_at l t ht).2; rwa [← Nat.add_assoc] at this⟩⟩
theorem OwnT.seesN {base : Nat} {w : World} {cs : Array Value} {t : TxnD} (h : OwnT base w cs t) (hr : SmallT t) : SeesT w cs t := by
  obtain ⟨cv, av, rv, wv, h0, h1, h2, h3, h4⟩ := h
  exact ⟨cv, av, rv, wv, h0, (sees_of_own h1).2, (sees_of_own h2).2, sees_keysN h3 hr.2.2.1, sees_keysN h4 hr.2.2.2⟩
theorem OwnTs.seesN {base : Nat} {w : World} {x : Value} {l : List TxnD} (h : OwnTs base w x l) (hl : l.length ≤ 1256584717421) (hr : ∀ t ∈ l, SmallT t) : SeesTs w x l := by
  obtain ⟨vs, rfl, hrow, hall⟩ := h
  rcases hrow.2 with ⟨rfl, h0⟩ | ⟨g, cap, cur, rfl, hg, hh, hcap, _⟩
  · exact ⟨none, 0, 0, 0, by rw [h0], by omega, by omega, fun h => absurd h (by omega), fun t ht => absurd ht (by omega)⟩
  · have hat : ∀ t u, (vs.flatMap txnCells)[t]? = some u → w.cell? ⟨g, 0 + t, none⟩ = some u := by
      intro t u hu
      have := hrow.cells (g := g) rfl t u hu
      rwa [Addr.add_mid] at this
    refine ⟨some ⟨g, 0, none⟩, cap, g, 0, rfl, hcap, by omega, fun _ => rfl, fun t ht => ?_⟩
    have htv : t < vs.length := by simpa using ht
    have hp : vs[t]? = some vs[t] := List.getElem?_eq_getElem htv
    have e : (vs.map (·.1)).getD t dT = vs[t].1 := by simp [List.getD, htv]
    rw [e]
    have hc : ∀ k u, k < 6 → (txnCells vs[t])[k]? = some u → w.cell? ⟨g, 0 + t * 6 + k, none⟩ = some u := fun k u hk hu => by
      have := hat (t * 6 + k) u ((txnCells_at vs t _ hp k hk).trans hu)
      rwa [← Nat.add_assoc] at this
    exact ⟨_, _, _, _, hc 0 _ (by omega) rfl, hc 1 _ (by omega) rfl, hc 2 _ (by omega) rfl, hc 3 _ (by omega) rfl, hc 4 _ (by omega) rfl, hc 5 _ (by omega) rfl, (hall _ (List.getElem_mem htv)).seesN (hr _ (List.mem_map.2 ⟨_, List.getElem_mem htv, rfl⟩))⟩
theorem OwnE.seesN {base : Nat} {w : World} {cs : Array Value} {e : EntD} (h : OwnE base w cs e) (hl : e.txns.length ≤ 1256584717421) (hr : ∀ t ∈ e.txns, SmallT t) : SeesE w cs e := by
  obtain ⟨tv, h0, h1⟩ := h
  exact ⟨tv, h0, h1.seesN hl hr⟩
theorem OwnTms.seesN {base : Nat} {w : World} {x : Value} {l : List TmD} (h : OwnTms base w x l) (hl : l.length ≤ 2513169434843) (hr : ∀ t ∈ l, SmallTm t) : SeesTms w x l := by
  obtain ⟨vs, rfl, hrow, hall⟩ := h
  rcases hrow.2 with ⟨rfl, h0⟩ | ⟨g, cap, cur, rfl, hg, hh, hcap, _⟩
  · exact ⟨none, 0, 0, 0, by rw [h0], by omega, by omega, fun h => absurd h (by omega), fun t ht => absurd ht (by omega)⟩
  · have hat : ∀ t u, (vs.flatMap tmCells)[t]? = some u → w.cell? ⟨g, 0 + t, none⟩ = some u := by
      intro t u hu
      have := hrow.cells (g := g) rfl t u hu
      rwa [Addr.add_mid] at this
    refine ⟨some ⟨g, 0, none⟩, cap, g, 0, rfl, hcap, by omega, fun _ => rfl, fun t ht => ?_⟩
    have htv : t < vs.length := by simpa using ht
    have hp : vs[t]? = some vs[t] := List.getElem?_eq_getElem htv
    have e : (vs.map (·.1)).getD t dM = vs[t].1 := by simp [List.getD, htv]
    rw [e]
    have hc : ∀ k u, k < 5 → (tmCells vs[t])[k]? = some u → w.cell? ⟨g, 0 + t * 5 + k, none⟩ = some u := fun k u hk hu => by
      have := hat (t * 5 + k) u ((tmCells_at vs t _ hp k hk).trans hu)
      rwa [← Nat.add_assoc] at this
    have hm := hr _ (List.mem_map.2 ⟨_, List.getElem_mem htv, rfl⟩)
    exact ⟨_, hc 0 _ (by omega) rfl, hc 1 _ (by omega) rfl, hc 2 _ (by omega) rfl, hc 3 _ (by omega) rfl, hc 4 _ (by omega) rfl, (hall _ (List.getElem_mem htv)).seesN hm.1 hm.2⟩
end Go.Proofs.Ytoddemcmmijoaaa
