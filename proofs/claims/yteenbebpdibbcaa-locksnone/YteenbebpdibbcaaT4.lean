/- slices.SortFunc of askers, by their numbers. -/
import Derived.Test.YteenbebpdibbcaaT3
import Derived.Test.YteenbebpdibbcaaSH
namespace Go.Proofs.Yteenbebpdibbcaa
open Go.RowKit Go.Sort
set_option maxRecDepth 100000

theorem nanI (a : Int) (w : World) : Calls Try.prog 71 #[.int .i64 a] w fun e w' => e = .returned (.bool false) ∧ w = w' := by
  go_enter Try.func71, Try.ntmps71
  go_wp2
  go_ret
  exact ⟨retBool (by simp), rfl⟩
theorem cmpInt (a b : Int) (w : World) : Calls Try.prog 51 #[.int .i64 a, .int .i64 b] w fun e w' => e = .returned (.int .i64 (cmpI a b)) ∧ w = w' := by
  unfold cmpI
  by_cases h1 : a < b
  · rw [if_pos h1]
    go_enter Try.func51, Try.ntmps51
    go_wp2_with (go_at_call 71; refine (nanI _ _).mono ?_; rintro e w' ⟨rfl, rfl⟩)
    go_ret
    exact ⟨rfl, rfl⟩
  · rw [if_neg h1]
    by_cases h2 : b < a
    · rw [if_pos h2]
      go_enter Try.func51, Try.ntmps51
      go_wp2_with (go_at_call 71; refine (nanI _ _).mono ?_; rintro e w' ⟨rfl, rfl⟩)
      go_ret
      exact ⟨rfl, rfl⟩
    · rw [if_neg h2]
      go_enter Try.func51, Try.ntmps51
      go_wp2_with (go_at_call 71; refine (nanI _ _).mono ?_; rintro e w' ⟨rfl, rfl⟩)
      go_ret
      exact ⟨rfl, rfl⟩
theorem cmpA_any {w : World} {x y : Nat} {nx ny : Int} (hx : w.cell? ⟨x, 2, none⟩ = some (.int .i64 nx)) (hy : w.cell? ⟨y, 2, none⟩ = some (.int .i64 ny)) :
    Calls Try.prog 50 #[PN x, PN y] w fun e w' => e = .returned (.int .i64 (cmpI nx ny)) ∧ w' = w.drew := by
  have HC : Hid (∀ z, z = w.drew → Calls Try.prog 51 #[.int .i64 nx, .int .i64 ny] z fun e w' => e = .returned (.int .i64 (cmpI nx ny)) ∧ w' = w.drew) := fun z hz => (cmpInt nx ny z).mono fun e w' h => ⟨h.1, h.2.symm.trans hz⟩
  go_enter Try.func50, Try.ntmps50
  go_wp2
  refine wp_region_held_drew (S := fun z => z = w.drew) (by kernel_rfl) rfl (fun hHeld => ?_)
  refine wpAnyH_take (i := 0) (v := ?v1x0) rfl (by kernel_rfl) (by kernel_rfl) (by kernel_rfl) (fun _ _ _ h => h) (Or.inl ⟨by rfl, ?hy1x0⟩) (by assumption) ?rest1x0
  case hy1x0 => intro w hSw; subst hSw; go_simp <;> with_reducible rfl
  simp only [Act.put, List.getElem_toArray, List.getElem_cons_zero, List.setIfInBounds_toArray, List.set_cons_zero, List.set_cons_succ]
  refine wpAnyH_take (i := 1) (v := ?v2x1) rfl (by kernel_rfl) (by kernel_rfl) (by kernel_rfl) (fun _ _ _ h => h) (Or.inl ⟨by rfl, ?hy2x1⟩) (by assumption) ?rest2x1
  case hy2x1 => intro w hSw; subst hSw; go_simp <;> with_reducible rfl
  simp only [Act.put, List.getElem_toArray, List.getElem_cons_zero, List.getElem_cons_succ, List.setIfInBounds_toArray, List.set_cons_zero, List.set_cons_succ]
  refine wpAnyH_take (i := 2) (v := ?v3x2) rfl (by kernel_rfl) (by kernel_rfl) (by kernel_rfl) (fun _ _ _ h => h) (Or.inl ⟨by rfl, ?hy3x2⟩) (by assumption) ?rest3x2
  case hy3x2 => intro w hSw; subst hSw; go_simp <;> with_reducible rfl
  simp only [Act.put, List.getElem_toArray, List.getElem_cons_zero, List.getElem_cons_succ, List.setIfInBounds_toArray, List.set_cons_zero, List.set_cons_succ]
  refine wpAnyH_take (i := 3) (v := ?v4x3) rfl (by kernel_rfl) (by kernel_rfl) (by kernel_rfl) (fun _ _ _ h => h) (Or.inl ⟨by rfl, ?hy4x3⟩) (by assumption) ?rest4x3
  case hy4x3 => intro w hSw; subst hSw; go_simp <;> with_reducible rfl
  simp only [Act.put, List.getElem_toArray, List.getElem_cons_zero, List.getElem_cons_succ, List.setIfInBounds_toArray, List.set_cons_zero, List.set_cons_succ]
  refine wpAnyH_take (i := 4) (v := ?v5x4) rfl (by kernel_rfl) (by kernel_rfl) (by kernel_rfl) (fun _ _ _ h => h) (Or.inl ⟨by rfl, ?hy5x4⟩) (by assumption) ?rest5x4
  case hy5x4 => intro w hSw; subst hSw; go_simp <;> with_reducible rfl
  simp only [Act.put, List.getElem_toArray, List.getElem_cons_zero, List.getElem_cons_succ, List.setIfInBounds_toArray, List.set_cons_zero, List.set_cons_succ]
  refine wpAnyH_take (i := 5) (v := ?v6x5) rfl (by kernel_rfl) (by kernel_rfl) (by kernel_rfl) (fun _ _ _ h => h) (Or.inl ⟨by rfl, ?hy6x5⟩) (by assumption) ?rest6x5
  case hy6x5 => intro w hSw; subst hSw; go_simp <;> with_reducible rfl
  simp only [Act.put, List.getElem_toArray, List.getElem_cons_zero, List.getElem_cons_succ, List.setIfInBounds_toArray, List.set_cons_zero, List.set_cons_succ]
  refine wpAnyH_take (i := 6) (v := ?v7x6) rfl (by kernel_rfl) (by kernel_rfl) (by kernel_rfl) (fun _ _ _ h => h) (Or.inl ⟨by rfl, ?hy7x6⟩) (by assumption) ?rest7x6
  case hy7x6 => intro w hSw; subst hSw; go_simp <;> with_reducible rfl
  simp only [Act.put, List.getElem_toArray, List.getElem_cons_zero, List.getElem_cons_succ, List.setIfInBounds_toArray, List.set_cons_zero, List.set_cons_succ]
  refine wpAnyH_take (i := 7) (v := ?v8x7) rfl (by kernel_rfl) (by kernel_rfl) (by kernel_rfl) (fun _ _ _ h => h) (Or.inl ⟨by rfl, ?hy8x7⟩) (by assumption) ?rest8x7
  case hy8x7 => intro w hSw; subst hSw; go_simp <;> with_reducible rfl
  simp only [Act.put, List.getElem_toArray, List.getElem_cons_zero, List.getElem_cons_succ, List.setIfInBounds_toArray, List.set_cons_zero, List.set_cons_succ]
  refine wpAnyH_ready (rs := [8]) (by kernel_rfl) (by simp) ?_
  refine AllReadyH.cons rfl (fun K hK => ?_) AllReadyH.nil
  go_simp
  refine (unhide HC _ rfl).mono ?_
  rintro e wq ⟨rfl, hb1⟩
  refine hK _ _ hb1 ?_
  clear hK hHeld
  intro hHeld
  refine wpAnyH_take (i := 9) (v := ?v9x9) rfl (by kernel_rfl) (by kernel_rfl) (by kernel_rfl) (fun _ _ _ h => h) (Or.inl ⟨by rfl, ?hy9x9⟩) (by assumption) ?rest9x9
  case hy9x9 => intro w hSw; subst hSw; go_simp <;> with_reducible rfl
  simp only [Act.put, List.getElem_toArray, List.getElem_cons_zero, List.getElem_cons_succ, List.setIfInBounds_toArray, List.set_cons_zero, List.set_cons_succ]
  refine wpAnyH_done (by kernel_rfl) ?_ _
  subst hb1
  go_wp2
  go_ret
  exact ⟨rfl, rfl⟩
abbrev Sb (S : Sto) : Type := { b : Nat // ∃ A, S.ak b = some A }
def numB (S : Sto) (b : Nat) : Int := match S.ak b with
  | some A => A.num
  | none => 0
def encB (S : Sto) (x : Sb S) : Value := PN x.1
def cfB (S : Sto) (x y : Sb S) : Int := cmpI (numB S x.1) (numB S y.1)
theorem ltOf_cfB (S : Sto) (x y : Sb S) : ltOf (cfB S) x y = decide (numB S x.1 < numB S y.1) := by
  unfold ltOf cfB cmpI
  rw [decide_eq_decide]
  split
  · omega
  · split <;> omega
theorem swoB (S : Sto) : SWO (ltOf (cfB S)) where
  irrefl x := by rw [ltOf_cfB]; simp
  trans x y z h1 h2 := by
    rw [ltOf_cfB, decide_eq_true_eq] at *
    omega
  ntrans x y z h1 h2 := by
    rw [ltOf_cfB, decide_eq_false_iff_not] at *
    omega
theorem lift_sb {S : Sto} : ∀ {D : List Nat}, (∀ b ∈ D, ∃ A, S.ak b = some A) → ∃ E : List (Sb S), E.map (·.1) = D
  | [], _ => ⟨[], rfl⟩
  | b :: r, h => by
    obtain ⟨E, hE⟩ := lift_sb (D := r) fun x hx => h x (by simp [hx])
    exact ⟨⟨b, h b (by simp)⟩ :: E, congrArg (List.cons b) hE⟩
theorem enters50 : ∀ args w, (callFunc 50 args).run Try.prog w = .ok (.enter 50 args) w := enters_of Try.func50 (by kernel_rfl) rfl
section
variable {B : Nat → Prop} {lb mq mp : Nat} {w : World} {S : Sto}
theorem sw_far {α : Type} [Inhabited α] {enc : α → Value} {g m : Nat} {dk : Array α} {os : Array Obj} : ∀ j, j < w.heap.size → j ≠ g → (sortWorld enc w g 0 m dk os).heap[j]? = w.heap[j]? := fun j hj hne => by
  have hP : (putRow enc (Sort.ahead w m) g 0 dk).heap = w.heap.modify g (onCells (putCells enc 0 dk)) := rfl
  have hS : (putRow enc (Sort.ahead w m) g 0 dk).heap.size = w.heap.size := by rw [hP]; simp
  unfold sortWorld
  rw [heap_grow_old _ _ (by rw [hS]; exact hj), hP, Array.getElem?_modify, if_neg (Ne.symm hne)]
theorem cmpLaysB [Inhabited (Sb S)] (h : Mem B lb mq mp w S) {g : Nat} {cur : Array Value} (hg : w.heap[g]? = some (.cells cur 86)) (size : Nat) : CmpLays1 Try.prog 50 #[] (encB S) (cfB S) g 0 size w := fun m os dk _ x y => by
  obtain ⟨x, A, hA⟩ := x
  obtain ⟨y, A', hA'⟩ := y
  have rd : ∀ {b : Nat} {A : Ak}, S.ak b = some A → (sortWorld (encB S) w g 0 m dk os).cell? ⟨b, 2, none⟩ = some (.int .i64 (numB S b)) := fun {b A} hb => by
    have e : numB S b = A.num := by unfold numB; rw [hb]
    have h1 := (h.ak b A hb).1
    rw [e, cell_at ((sw_far b (lt_of h1) (ne_ty hg h1 (by decide))).trans h1)]
    rfl
  refine (cmpA_any (rd hA) (rd hA')).mono fun e w' ⟨he, hw⟩ => ⟨he, ?_⟩
  obtain ⟨q, os', hq⟩ := grew_drew (grew_refl (sortWorld (encB S) w g 0 m dk os))
  exact ⟨q, os', hw.trans hq⟩
theorem own_putB [Inhabited (Sb S)] {base n g cap m : Nat} {E E' : List (Sb S)} {os : Array Obj} (h : w.ownsRow base 86 1 (.slice (some ⟨g, 0, none⟩) n cap) n ((E.map (·.1)).map PN)) (hl : E'.length = E.length) :
    (sortWorld (encB S) w g 0 m E'.toArray os).ownsRow base 86 1 (.slice (some ⟨g, 0, none⟩) n cap) n ((E'.map (·.1)).map PN) ∧ w.heap.size ≤ (sortWorld (encB S) w g 0 m E'.toArray os).heap.size := by
  have hlen := h.1
  have hnl : n = E.length := by simpa using hlen.symm
  rcases h.2 with ⟨e0, _⟩ | ⟨g', cap', cur, hv, hb, hg, hnc, hcm, hcs, ht⟩
  · cases e0
  cases hv
  have hlt := (Array.getElem?_eq_some_iff.1 hg).1
  have hP : (putRow (encB S) (Sort.ahead w m) g 0 E'.toArray).heap = w.heap.modify g (onCells (putCells (encB S) 0 E'.toArray)) := rfl
  have hS : (putRow (encB S) (Sort.ahead w m) g 0 E'.toArray).heap.size = w.heap.size := by rw [hP]; simp
  have hle : w.heap.size ≤ (sortWorld (encB S) w g 0 m E'.toArray os).heap.size := by
    unfold sortWorld Sort.grow
    simp only [Array.size_append]
    rw [hS]
    omega
  have hl' : ((E'.map (·.1)).map PN).length = n * 1 := by simp [hl, hnl]
  refine ⟨⟨hl', .inr ⟨g, cap, putCells (encB S) 0 E'.toArray cur, rfl, hb, ?_, hnc, hcm, by simp [putCells, hcs], ?_⟩⟩, hle⟩
  · unfold sortWorld
    rw [heap_grow_old _ _ (by rw [hS]; exact hlt), hP, Array.getElem?_modify, if_pos rfl, hg]
    rfl
  · refine List.ext_getElem? fun i => ?_
    by_cases hi : i < n * 1
    · have hic : i < cur.size := by rw [hcs]; exact Nat.lt_of_lt_of_le hi (Nat.mul_le_mul_right 1 hnc)
      have hi' : i < E'.length := by omega
      rw [List.getElem?_take_of_lt hi]
      simp only [putCells, Array.toList_mapIdx, List.getElem?_mapIdx]
      rw [List.getElem?_eq_getElem (by simpa using hic)]
      simp only [Option.map_some, Nat.zero_le, Nat.zero_add, true_and, Nat.sub_zero]
      rw [if_pos (by simpa using hi')]
      simp [encB, hi']
    · rw [List.getElem?_eq_none (by rw [List.length_take]; omega), List.getElem?_eq_none (by rw [hl']; omega)]
theorem sortA_any (h : Mem B lb mq mp w S) {base n : Nat} {v : Value} {D : List Nat} (ho : w.ownsRow base 86 1 v n (D.map PN)) (hD : ∀ b ∈ D, ∃ A, S.ak b = some A) (hn : n < 4611686018427387904) :
    Calls Try.prog 49 #[v, .func (.func 50) #[] #[]] w fun e w' => e = .returned (.tuple #[]) ∧ ∃ D' : List Nat, w'.ownsRow base 86 1 v n (D'.map PN) ∧ D'.Perm D ∧ (D'.Pairwise fun x y => numB S x ≤ numB S y) ∧ Mem B lb mq mp w' S ∧ Below base w w' := by
  have hnl : D.length = n := by have := ho.1; simpa using this
  by_cases hz : n = 0
  · subst hz
    obtain rfl : D = [] := List.length_eq_zero_iff.1 hnl
    obtain ⟨ao, cap, rfl⟩ := own_shape ho
    refine (AnyF.slices_SortFunc_none { Try.sortA with } ao cap (.func (.func 50) #[] #[]) w).mono fun e w' hh => ?_
    obtain ⟨rfl, rfl⟩ := hh
    exact ⟨rfl, [], ho, List.Perm.refl _, List.Pairwise.nil, h, Below.refl _ _⟩
  rcases ho.2 with ⟨rfl, h0⟩ | ⟨g, cap, cur, rfl, hb, hg, _⟩
  · exact absurd h0 hz
  · obtain ⟨E, hE⟩ := lift_sb hD
    have hlE : E.length = n := by rw [← hnl, ← hE, List.length_map]
    letI : Inhabited (Sb S) := ⟨E[0]'(by omega)⟩
    subst hE
    have hsz : E.toArray.size = n := by simpa using hlE
    have hH : Holds (encB S) w g 0 E.toArray := fun j hj => by
      have hj' : j < E.length := by simpa using hj
      have h1 := ho.cells (g := g) rfl j (PN (E[j]).1) (by simp [hj'])
      rw [add_at, Nat.zero_add] at h1
      rw [Nat.zero_add]
      refine ⟨?_, frozen_of_heap hg⟩
      rw [h1]
      simp [encB, hj']
    have hcon := Any.slices_SortFunc Try.sortA (encB S) (fun _ => rfl) (cfB S) (swoB S) 50 #[] g 0 cap E.toArray w enters50 (cmpLaysB h hg _) hH (lt_of hg) (by rw [hsz]; exact hn)
    rw [hsz] at hcon
    refine hcon.mono fun e w' hh => ?_
    obtain ⟨rfl, ⟨D'⟩, m, os, ⟨hs1, _, hp⟩, hso, rfl⟩ := hh
    have hl : D'.length = E.length := by simpa using hs1
    have e1 : (Array.mk D').extract 0 n = Array.mk D' := by
      have : n = (Array.mk D').size := by simp [hl, hlE]
      rw [this]; exact Array.extract_size
    have e2 : E.toArray.extract 0 n = E.toArray := by rw [← hsz]; exact Array.extract_size
    rw [e1, e2] at hp
    simp only at hp
    obtain ⟨o1, o2⟩ := own_putB (m := m) (os := os) ho hl
    have far := fun j hj hne => sw_far (enc := encB S) (w := w) (g := g) (m := m) (dk := D'.toArray) (os := os) j hj hne
    have hkeep : ∀ {j : Nat} {cs : Array Value} {T : TypeId}, w.heap[j]? = some (.cells cs T) → T ≠ 86 → (sortWorld (encB S) w g 0 m D'.toArray os).heap[j]? = w.heap[j]? := fun {j cs T} hj hT => far j (lt_of hj) (ne_ty hg hj hT)
    refine ⟨rfl, D'.map (·.1), o1, hp.map _, ?_, ?_, ⟨rfl, rfl, rfl, o2, fun j hj => far j (by have := lt_of hg; omega) (by omega)⟩⟩
    · rw [List.pairwise_map]
      refine List.pairwise_iff_getElem.2 fun i j hi hj hij => ?_
      have hx := hso i j (Nat.zero_le _) hij (by omega)
      have gi : (Array.mk D')[i]! = D'[i] := by simp [hi]
      have gj : (Array.mk D')[j]! = D'[j] := by simp [hj]
      rw [gi, gj, ltOf_cfB, decide_eq_false_iff_not] at hx
      omega
    · refine h.gr (base := base) (n := n) (v := .slice (some ⟨g, 0, none⟩) n cap) (xs := (E.map (·.1)).map PN) (T := 86) (by decide) ho ⟨rfl, rfl, rfl, o2, fun k hk hne => far k hk fun e => hne (by rw [e]; rfl)⟩
end
end Go.Proofs.Yteenbebpdibbcaa
