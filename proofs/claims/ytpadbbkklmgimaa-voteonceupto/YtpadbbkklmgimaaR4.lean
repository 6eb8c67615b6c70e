/- The document's Count, Clone. -/
import Derived.Test.YtpadbbkklmgimaaR3
namespace Go.Proofs.Ytpadbbkklmgimaa
open Go.RowKit

theorem IsR.setVt {w : World} {r b cap : Nat} {V : Vt} (H : IsR w r b cap V) (k : Nat) (hk : k < V.n) (hs : k ≠ V.self) (x : Bool) : IsR (w.setCell ⟨b, k, none⟩ (.bool x)) r b cap (V.setVt k x) := by
  have hn := H.ne
  have cr : ∀ o, (w.setCell ⟨b, k, none⟩ (.bool x)).cell? ⟨r, o, none⟩ = w.cell? ⟨r, o, none⟩ := fun o => cs_other (addr_ne (Or.inl hn.symm))
  refine ⟨hn, H.fit, (cr 0).trans H.c0, (cr 1).trans H.c1, (cr 2).trans H.c2, (cr 3).trans H.c3, ?_, (cr 5).trans H.c5, fun i hi => ?_, fun o => by rw [World.frozen?_setCell]; exact H.frR o, fun o => by rw [World.frozen?_setCell]; exact H.frB o⟩
  · rw [cr 4]
    show _ = some (Value.bool (if V.self = k then x else V.vt V.self))
    rw [if_neg (Ne.symm hs)]; exact H.c4
  · show _ = some (Value.bool (if i = k then x else V.vt i))
    by_cases c : i = k
    · subst c; rw [if_pos rfl]; exact cs_same (H.cv _ hk)
    · rw [if_neg c, cs_other (addr_ne (Or.inr (Ne.symm c)))]; exact H.cv i hi

set_option maxHeartbeats 800000 in
theorem rcount_not {r b cap : Nat} {V : Vt} {w : World} (H : IsR w r b cap V) (O : V.Ok) (who term : Int) (yes : Bool) (hc : V.counts who term yes = false) :
    Calls Try.prog 28 #[P0 r, .int .i64 who, .int .i64 term, .bool yes] w fun e w' => e = .returned (.bool false) ∧ w = w' := by
  have h2 := H.c2; have h4 := H.c4; have h5 := H.c5
  have HA := hide (other_any H who)
  have HCV := hide H.cv
  have HO := hide O
  have hfit := H.fit
  clear H O
  cases c1 : V.vt V.self
  · rw [c1] at h4
    clear hc
    go_enter Try.func28, Try.ntmps28
    go_wp2
    go_ret
    exact ⟨rfl, rfl⟩
  · rw [c1] at h4
    by_cases c2 : term = V.term
    · subst c2
      cases yes
      · clear hc
        go_enter Try.func28, Try.ntmps28
        go_wp2
        go_ret
        exact ⟨rfl, rfl⟩
      · cases c3 : V.other who
        · rw [c3] at HA
          clear hc
          go_enter Try.func28, Try.ntmps28
          go_wp2_with (go_at_call 35; refine (unhide HA).mono ?_; rintro e w' ⟨rfl, rfl⟩)
          go_ret
          exact ⟨rfl, rfl⟩
        · rw [c3] at HA
          have c4 : V.vt who.toNat = true := by simpa [Vt.counts, c1, c3] using hc
          obtain ⟨k, rfl, hk5, hkn, hks⟩ := Vt.other_nat (unhide HO) c3
          rw [Int.toNat_natCast] at c4
          have hk0 : (0 : Int) ≤ (k : Int) := by omega
          have hk6 : (k : Int) < V.n := by omega
          have hv := unhide HCV k hkn
          rw [c4] at hv
          clear hc
          go_enter Try.func28, Try.ntmps28
          go_wp2_with (go_at_call 35; refine (unhide HA).mono ?_; rintro e w' ⟨rfl, rfl⟩)
          go_ret
          exact ⟨rfl, rfl⟩
    · clear hc
      go_enter Try.func28, Try.ntmps28
      go_wp2
      go_ret
      exact ⟨rfl, rfl⟩

set_option maxHeartbeats 800000 in
theorem rcount_is {r b cap : Nat} {V : Vt} {w : World} (H : IsR w r b cap V) (O : V.Ok) (who term : Int) (yes : Bool) (hc : V.counts who term yes = true) :
    Calls Try.prog 28 #[P0 r, .int .i64 who, .int .i64 term, .bool yes] w fun e w' => e = .returned (.bool (!V.won && (V.setVt who.toNat true).won)) ∧ IsR w' r b cap (V.setVt who.toNat true) ∧ Upd (One b) w.heap.size w w' := by
  have h2 := H.c2; have h4 := H.c4; have h5 := H.c5
  have HA := hide (other_any H who)
  have HW := hide (rwon_any H O)
  have HI := hide H
  have HO := hide O
  have hfit := H.fit
  obtain ⟨rfl, c1, c2, c3, c4⟩ := Vt.counts_is hc
  obtain ⟨k, rfl, hk5, hkn, hks⟩ := Vt.other_nat O c3
  rw [Int.toNat_natCast] at c4 ⊢
  have hv := H.cv k hkn
  rw [c1] at h4
  rw [c3] at HA
  rw [c4] at hv
  subst c2
  have hk0 : (0 : Int) ≤ (k : Int) := by omega
  have hk6 : (k : Int) < V.n := by omega
  clear H O hc
  go_enter Try.func28, Try.ntmps28
  go_wp2_with (go_at_call 35; refine (unhide HA).mono ?_; rintro e w' ⟨rfl, rfl⟩)
  refine (unhide HW).mono ?_
  rintro e w2 ⟨rfl, hb2⟩
  have HI2 := hide ((unhide HI).below (unhide HO).pos hb2)
  have q5 := (unhide HI2).c5; have q4 := (unhide HI2).cv k hkn; have qf := (unhide HI2).frB
  have HI3 := hide ((unhide HI2).setVt k hkn hks true)
  have HU3 : Hid (Upd (One b) w.heap.size w (w2.setCell ⟨b, k, none⟩ (.bool true))) := (Upd.of hb2).one _
  have HW3 := hide (rwon_any (unhide HI3) ((unhide HO).setVtc k))
  clear hb2 h2 h4 h5 hv HW HA
  cases hw : V.won
  · go_wp2_with fail
    refine (unhide HW3).mono ?_
    rintro e w3 ⟨rfl, hb3⟩
    have HF : Hid (IsR w3 r b cap (V.setVt k true) ∧ Upd (One b) w.heap.size w w3) := ⟨(unhide HI3).below (unhide HO).pos hb3, (unhide HU3).trans ((Upd.of hb3).less (unhide HU3).size)⟩
    clear hb3
    go_wp2
    go_ret
    exact ⟨ret_bool (by first | (simp; done) | simp [hw]), unhide HF⟩
  · go_wp2
    go_ret
    exact ⟨ret_bool (by first | (simp; done) | simp [hw]), unhide HI3, unhide HU3⟩

/-- The votes as cells. -/
def vCells (V : Vt) : List Value := (List.range V.n).map fun i => .bool (V.vt i)
theorem vCells_length (V : Vt) : (vCells V).length = V.n := by simp [vCells]
theorem vCells_at {V : Vt} {i : Nat} (h : i < V.n) : (vCells V)[i]? = some (.bool (V.vt i)) := by simp [vCells, h]

def NewC (w : World) (N : Nat) (V : Vt) : Prop := ∃ b cap, IsR w N b cap V ∧ N ≤ b

set_option maxHeartbeats 800000 in
theorem rclone_any {r b cap : Nat} {V : Vt} {w : World} (H : IsR w r b cap V) (O : V.Ok) :
    Calls Try.prog 24 #[P0 r] w fun e w' => e = .returned (P0 w.heap.size) ∧ NewC w' w.heap.size V ∧ Below w.heap.size w w' := by
  obtain ⟨i4, hi4, hz0, hz1, hz2⟩ := info_parts Try.info4
  have h0 := H.c0; have h1 := H.c1; have h2 := H.c2; have h3 := H.c3; have h4 := H.c4; have h5 := H.c5
  have hlt := H.rlt; have hbl := H.blt O.pos
  have hpos := O.pos; have hle := O.le; have hfit := H.fit
  have HV := hide H.cv
  clear H O
  go_enter Try.func24, Try.ntmps24
  go_wp2_with (at_builtin; refine wpList_append_own _ rfl _ _ 67 rfl w.heap.size 4 i4 (.bool false) 1 1 Try.underlying67 hi4 hz0 hz1 hz2 rfl (by decide) _ 0 [] rfl (World.ownsRow_nil _ _ _ _) ⟨b, 0, none⟩ V.n cap (vCells V) rfl (by rw [vCells_length]; omega) ?d0 ?d1 ?d2 ?d3 ?d4 ?_)
  case d0 =>
    intro j u hu
    have hj : j < V.n := by have := (List.getElem?_eq_some_iff.1 hu).1; rwa [vCells_length] at this
    rw [vCells_at hj] at hu
    have hadd : (⟨b, 0, none⟩ : Addr).add j = ⟨b, j, none⟩ := by unfold Addr.add; split <;> simp_all
    rw [hadd, World.cell?_alloc_old _ _ _ (by show b ≠ _; omega), ← hu]
    exact unhide HV j hj
  case d1 => intro u hu; simp only [vCells, List.mem_map] at hu; obtain ⟨i, _, rfl⟩ := hu; rfl
  case d2 => unfold maxLen; omega
  case d3 => omega
  case d4 => simp
  intro v' w2 hown hg _
  have hS : w2.heap[w.heap.size]? = some (.cells #[.int .i64 V.n, .int .i64 V.self, .int .i64 V.term, .int .i64 V.voted, .bool (V.vt V.self), .slice (some ⟨b, 0, none⟩) V.n cap] 69 (0, 0)) :=
    (hg.block w.heap.size (by simp) (by simp [Value.ownBlock])).trans (heap_alloc_new _ _)
  have hB2 : Below w.heap.size w w2 := ((Below.refl _ _).alloc (Nat.le_refl _) _).trans ((Below.refl _ _).grown hg (by simp) (fun k hk => by simp [Value.ownBlock] at hk))
  have hcells := fun g h => hown.cells (g := g) h
  rcases hown.2 with ⟨rfl, hn⟩ | ⟨g, cp, cur, rfl, hgb, hgg, hnc, hcm, hcs, htake⟩
  · omega
  have hne : w.heap.size ≠ g := by
    rintro rfl
    rw [hS] at hgg
    simp at hgg
  have hcl : ∀ i, i < V.n → w2.cell? ⟨g, i, none⟩ = some (.bool (V.vt i)) := fun i hi => by
    have := hcells g rfl i _ (vCells_at hi)
    have hadd : (⟨g, 0, none⟩ : Addr).add (i * 1) = ⟨g, i, none⟩ := by unfold Addr.add; split <;> simp_all
    first | exact this | (rw [Nat.mul_one] at hadd; rw [hadd] at this; exact this)
  have c := fun o => cell_of_row w2 w.heap.size o _ _ _ hS
  have c5 := c 5
  have fS : ∀ o, w2.frozen? ⟨w.heap.size, o, none⟩ = false := fun o => by unfold World.frozen?; rw [hS]; simp
  have hcr : ∀ (u : Value) o, o ≠ 5 → (w2.setCell ⟨w.heap.size, 5, none⟩ u).cell? ⟨w.heap.size, o, none⟩ = w2.cell? ⟨w.heap.size, o, none⟩ := fun u o ho => cs_other (addr_ne (Or.inr ho.symm))
  have HF : Hid (IsR (w2.setCell ⟨w.heap.size, 5, none⟩ (.slice (some ⟨g, 0, none⟩) V.n cp)) w.heap.size g cp V) :=
    ⟨hne, hnc, (hcr _ 0 (by decide)).trans (c 0), (hcr _ 1 (by decide)).trans (c 1), (hcr _ 2 (by decide)).trans (c 2), (hcr _ 3 (by decide)).trans (c 3), (hcr _ 4 (by decide)).trans (c 4), cs_same c5,
      fun i hi => (cs_other (addr_ne (Or.inl hne))).trans (hcl i hi), fun o => by rw [World.frozen?_setCell]; exact fS o, fun o => by rw [World.frozen?_setCell]; unfold World.frozen?; rw [hgg]; simp⟩
  have HB2 : Hid (Below w.heap.size w (w2.setCell ⟨w.heap.size, 5, none⟩ (.slice (some ⟨g, 0, none⟩) V.n cp))) := hB2.setCell (p := ⟨w.heap.size, 5, none⟩) (Nat.le_refl _) _
  have HG := hide hgb
  have q5 : w2.cell? ⟨w.heap.size, 5, none⟩ = some (.slice (some ⟨b, 0, none⟩) V.n cap) := c5
  clear hown hg hS hB2 hcells hgg hcs htake hcl c c5 hcr HV
  go_wp2
  go_ret
  exact ⟨rfl, ⟨g, cp, unhide HF, unhide HG⟩, unhide HB2⟩
end Go.Proofs.Ytpadbbkklmgimaa
