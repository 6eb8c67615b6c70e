/- The document's flash: a block's pages copied, turned and put in place; Program. -/
import Derived.Test.YteehhbgjjamjiaaR3
namespace Go.Proofs.Yteehhbgjjamjiaa
open Go.RowKit

variable {w : World} {S : Nat → Prop} {hr gp gw cp cw : Nat} {pb cb : Nat → Nat} {bv : Nat → Nat → Value} {F : Fl} {kp : Int}

def pgCell (st : Nat → Int) (bv : Nat → Value) (t : Nat) : Value := if t % 3 = 0 then .bool (decide (st (t / 3) ≠ 0)) else if t % 3 = 1 then .bool (decide (st (t / 3) = 1)) else bv (t / 3)
def pgCells (st : Nat → Int) (bv : Nat → Value) : List Value := (List.range 48).map (pgCell st bv)
theorem pgCells_length (st : Nat → Int) (bv : Nat → Value) : (pgCells st bv).length = 48 := by simp [pgCells]
theorem pgCells_at (st : Nat → Int) (bv : Nat → Value) (t : Nat) (h : t < 48) : (pgCells st bv)[t]? = some (pgCell st bv t) := by
  unfold pgCells
  rw [List.getElem?_map, List.getElem?_range h]
  rfl
theorem pgCell_0 (st : Nat → Int) (bv : Nat → Value) (j : Nat) : pgCell st bv (j * 3) = .bool (decide (st j ≠ 0)) := by
  unfold pgCell; rw [if_pos (by omega), show j * 3 / 3 = j by omega]
theorem pgCell_1 (st : Nat → Int) (bv : Nat → Value) (j : Nat) : pgCell st bv (j * 3 + 1) = .bool (decide (st j = 1)) := by
  unfold pgCell; rw [if_neg (by omega), if_pos (by omega), show (j * 3 + 1) / 3 = j by omega]
theorem pgCell_2 (st : Nat → Int) (bv : Nat → Value) (j : Nat) : pgCell st bv (j * 3 + 2) = bv j := by
  unfold pgCell; rw [if_neg (by omega), if_neg (by omega), show (j * 3 + 2) / 3 = j by omega]
theorem PgAt.at {w : World} {b : Nat} {st : Nat → Int} {bv : Nat → Value} (h : PgAt w b st bv) (t : Nat) (ht : t < 48) : w.cell? ⟨b, t, none⟩ = some (pgCell st bv t) := by
  obtain ⟨j, r, rfl, hr⟩ : ∃ j r, t = j * 3 + r ∧ r < 3 := ⟨t / 3, t % 3, by omega, by omega⟩
  obtain ⟨h0, h1, h2⟩ := h j (by omega)
  rcases (show r = 0 ∨ r = 1 ∨ r = 2 by omega) with rfl | rfl | rfl
  · rw [Nat.add_zero, pgCell_0]; exact h0
  · rw [pgCell_1]; exact h1
  · rw [pgCell_2]; exact h2
theorem pgCells_one (st : Nat → Int) (bv : Nat → Value) (hs : ∀ j, j < 16 → ∃ a l c, bv j = .slice a l c) : ∀ u ∈ pgCells st bv, u.oneCell' = true := by
  intro u hu
  simp only [pgCells, List.mem_map, List.mem_range] at hu
  obtain ⟨t, ht, rfl⟩ := hu
  unfold pgCell
  split
  · rfl
  · split
    · rfl
    · obtain ⟨a, l, c, e⟩ := hs (t / 3) (by omega)
      rw [e]; rfl

theorem Try.info86 : (Try.prog.info? 86).map (fun i => (i.zero, i.size, i.bytes)) = some (some (.agg #[.bool false, .bool false, .slice none 0 0]), 3, 32) := by kernel_rfl

/-- What a copied block of pages is. -/
theorem own_pages {w2 : World} {B : Nat} {v : Value} {st : Nat → Int} {bv : Nat → Value} (ho : w2.ownsRow B 86 3 v 16 (pgCells st bv)) :
    ∃ pl cpl, v = .slice (some ⟨pl, 0, none⟩) 16 cpl ∧ 16 ≤ cpl ∧ B ≤ pl ∧ PgAt w2 pl st bv ∧ ∀ o, w2.frozen? ⟨pl, o, none⟩ = false := by
  have ho' := ho
  rcases ho'.2 with ⟨_, h0⟩ | ⟨pl, cpl, cur, rfl, hB, hh, hcap, _⟩
  · omega
  have cell : ∀ t v, (pgCells st bv)[t]? = some v → w2.cell? ⟨pl, t, none⟩ = some v := fun t v h => by
    have := ho.cells (g := pl) rfl t v h
    have hadd : (⟨pl, 0, none⟩ : Addr).add t = ⟨pl, t, none⟩ := by unfold Addr.add; split <;> simp_all
    rw [hadd] at this
    exact this
  refine ⟨pl, cpl, rfl, hcap, hB, fun j hj => ⟨?_, ?_, ?_⟩, fun o => ho.frozenAt o⟩
  · rw [← pgCell_0 st bv]; exact cell _ _ (pgCells_at st bv _ (by omega))
  · rw [← pgCell_1 st bv]; exact cell _ _ (pgCells_at st bv _ (by omega))
  · rw [← pgCell_2 st bv]; exact cell _ _ (pgCells_at st bv _ (by omega))

theorem PgAt.keep {w w' : World} {b : Nat} {st : Nat → Int} {bv : Nat → Value} (h : PgAt w b st bv) (hb : w'.heap[b]? = w.heap[b]?) : PgAt w' b st bv := by
  intro j hj
  have c : ∀ o, w'.cell? ⟨b, o, none⟩ = w.cell? ⟨b, o, none⟩ := fun o => World.cell?_of_block (w := w) hb
  rw [c, c, c]; exact h j hj

/-- One page of a block is turned. -/
theorem PgAt.set {w : World} {b : Nat} {st : Nat → Int} {bv : Nat → Value} (h : PgAt w b st bv) (j : Nat) (hj : j < 16) (s : Int) (v : Value) :
    PgAt (((w.setCell ⟨b, j * 3, none⟩ (.bool (decide (s ≠ 0)))).setCell ⟨b, j * 3 + 1, none⟩ (.bool (decide (s = 1)))).setCell ⟨b, j * 3 + 2, none⟩ v) b (fun k => if k = j then s else st k) (fun k => if k = j then v else bv k) := by
  intro k hk
  by_cases c : k = j
  · subst c
    obtain ⟨h0, h1, h2⟩ := h k hk
    simp only [if_true]
    refine ⟨?_, ?_, ?_⟩
    · rw [cs_other (addr_ne (Or.inr (by omega))), cs_other (addr_ne (Or.inr (by omega)))]; exact cs_same h0
    · rw [cs_other (addr_ne (Or.inr (by omega)))]; exact cs_same ((cs_other (addr_ne (Or.inr (by omega)))).trans h1)
    · exact cs_same ((cs_other (addr_ne (Or.inr (by omega)))).trans ((cs_other (addr_ne (Or.inr (by omega)))).trans h2))
  · simp only [if_neg c]
    have cc : ∀ o, o ≠ j * 3 → o ≠ j * 3 + 1 → o ≠ j * 3 + 2 → (((w.setCell ⟨b, j * 3, none⟩ (.bool (decide (s ≠ 0)))).setCell ⟨b, j * 3 + 1, none⟩ (.bool (decide (s = 1)))).setCell ⟨b, j * 3 + 2, none⟩ v).cell? ⟨b, o, none⟩ = w.cell? ⟨b, o, none⟩ := fun o a1 a2 a3 => by
      rw [cs_other (addr_ne (Or.inr a3.symm)), cs_other (addr_ne (Or.inr a2.symm)), cs_other (addr_ne (Or.inr a1.symm))]
    rw [cc _ (by omega) (by omega) (by omega), cc _ (by omega) (by omega) (by omega), cc _ (by omega) (by omega) (by omega)]
    exact h k hk

/-- A block of pages is put in place. -/
theorem IsRf.install (H : IsRf w S hr gp gw cp cw pb cb bv F kp) {w' : World} (hu : Upd (fun k => k = gp) w.heap.size w w') (hfr : ∀ o, w'.frozen? ⟨gp, o, none⟩ = false) (hS : ∀ k, S k → k < w.heap.size) (i : Nat) (hi : i < F.n) (pl cpl : Nat) (hroom : 16 ≤ cpl) (hpl : w.heap.size ≤ pl)
    (hci : w'.cell? ⟨gp, i, none⟩ = some (.slice (some ⟨pl, 0, none⟩) 16 cpl)) (hco : ∀ k, k ≠ i → w'.cell? ⟨gp, k, none⟩ = w.cell? ⟨gp, k, none⟩) (F' : Fl) (hn : F'.n = F.n) (hwe : F'.wear = F.wear) (hcn : F'.cnt = F.cnt) (hke : F'.keep = F.keep) (hdo : F'.down = F.down)
    (hst : ∀ k, k ≠ i → F'.st k = F.st k) (hbs : ∀ k, k ≠ i → F'.bs k = F.bs k) (bn : Nat → Value) (hcells : PgAt w' pl (F'.st i) bn) (hshape : ∀ j, j < 16 → ∃ a l c, bn j = .slice a l c)
    (hbytes : ∀ j, j < 16 → F'.st i j = 2 → SeesA (Three hr gp gw S) w' (bn j) (bytesOf (F'.bs i j))) (hfull : ∀ j, j < 16 → F'.st i j = 2 → (F'.bs i j).size = 256) (hok : ∀ j, j < 16 → F'.st i j = 0 ∨ F'.st i j = 1 ∨ F'.st i j = 2) :
    IsRf w' S hr gp gw cp cw (fun k => if k = i then pl else pb k) (fun k => if k = i then cpl else cb k) (fun k => if k = i then bn else bv k) F' kp := by
  obtain ⟨l1, l2, l3, l4⟩ := H.rlt
  have cc : ∀ b o, b < w.heap.size → b ≠ gp → w'.cell? ⟨b, o, none⟩ = w.cell? ⟨b, o, none⟩ := fun b o hb hne => hu.cell (p := ⟨b, o, none⟩) hb hne
  have ff : ∀ b o, b < w.heap.size → b ≠ gp → w'.frozen? ⟨b, o, none⟩ = w.frozen? ⟨b, o, none⟩ := fun b o hb hne => hu.frozen (p := ⟨b, o, none⟩) hb hne
  refine ⟨H.d1, H.d2, H.d3, H.s1, H.s2, H.s3, by rw [hn]; exact H.le, by rw [hn]; exact H.pos, by rw [hn]; exact H.fitp, by rw [hn]; exact H.fitw, ?_, ?_, ?_, ?_, ?_, fun o => by rw [ff _ _ l1 H.d1]; exact H.frR o, hfr, fun o => by rw [ff _ _ l3 H.d3.symm]; exact H.frW o,
    fun k hk => ?_, fun k hk => ?_, fun k hk => ?_, fun k hk => ?_, fun k hk => ?_, fun k j hk hj => ?_, fun k j hk hj h2 => ?_, by rw [hcn, hke]; exact H.keep, by rw [hcn]; exact H.cnt0, by rw [hcn]; exact H.cnt1, fun k j hk hj h2 => ?_, fun k j hk hj => ?_⟩
  · rw [hn, cc _ _ l1 H.d1]; exact H.c0
  · rw [hn, cc _ _ l1 H.d1]; exact H.c1
  · rw [hcn, cc _ _ l1 H.d1]; exact H.c2
  · rw [cc _ _ l1 H.d1]; exact H.c3
  · rw [hdo, cc _ _ l1 H.d1]; exact H.c4
  · rw [hwe, cc _ _ l3 H.d3.symm]; exact H.wear k (hn ▸ hk)
  · by_cases c : k = i
    · subst c; simp only [if_true]; exact hci
    · simp only [if_neg c]; rw [hco k c]; exact H.page k (hn ▸ hk)
  · by_cases c : k = i
    · subst c; simp only [if_true]; exact hroom
    · simp only [if_neg c]; exact H.room k (hn ▸ hk)
  · by_cases c : k = i
    · subst c; simp only [if_true]
      rintro (e | e | e | e)
      · omega
      · omega
      · omega
      · have := hS _ e; omega
    · simp only [if_neg c]; exact H.away k (hn ▸ hk)
  · by_cases c : k = i
    · subst c; simp only [if_true]; exact hcells
    · simp only [if_neg c]
      rw [hst k c]
      intro j hj
      have hne : pb k ≠ gp := fun e => H.away k (hn ▸ hk) (Or.inr (Or.inl e))
      rw [cc _ _ (l4 k (hn ▸ hk)) hne, cc _ _ (l4 k (hn ▸ hk)) hne, cc _ _ (l4 k (hn ▸ hk)) hne]
      exact H.cells k (hn ▸ hk) j hj
  · by_cases c : k = i
    · subst c; simp only [if_true]; exact hshape j hj
    · simp only [if_neg c]; exact H.shape k j (hn ▸ hk) hj
  · by_cases c : k = i
    · subst c; simp only [if_true]; exact hbytes j hj h2
    · simp only [if_neg c]
      rw [hbs k c]
      rw [hst k c] at h2
      exact (H.bytes k j (hn ▸ hk) hj h2).upd hu (Nat.le_refl _) (fun k _ hnk c => hnk (Or.inr (Or.inl c)))
  · by_cases c : k = i
    · subst c; exact hfull j hj h2
    · rw [hbs k c]; rw [hst k c] at h2; exact H.full k j (hn ▸ hk) hj h2
  · by_cases c : k = i
    · subst c; exact hok j hj
    · rw [hst k c]; exact H.stOk k j (hn ▸ hk) hj

end Go.Proofs.Yteehhbgjjamjiaa
