/- ShardWhole's walk. -/
import Derived.Test.YtbajggmpklajnaaG1
import Derived.Test.YtbajggmpklajnaaE2
namespace Go.Proofs.Ytbajggmpklajnaa
open Go.RowKit
set_option maxRecDepth 100000

theorem inP_rises (n : Int) (l : List Ky) (p : Nat) : Rises (inP n (srt l) p) := List.Pairwise.filter _ (srt_rises l)
theorem inP_mem (n : Int) (l : List Ky) (p : Nat) (k : Ky) : k ∈ inP n (srt l) p ↔ k ∈ l ∧ pl n k = p := by
  unfold inP
  rw [List.mem_filter, srt_mem]
  simp
theorem has_from {y x : World} {v : Value} {l : List Ky} (hs : SeesL kC 2 x v l) (hb : Below y.heap.size y x) (a b : Int) {r : Bool} (hr : decide ((a, b) ∈ l) = r) : Calls Try.prog 24 #[v, .agg #[.int .i32 a, .int .i64 b]] x fun e w' => e = .returned (.bool r) ∧ Below y.heap.size y w' := by
  subst hr
  exact (has_any hs a b).mono fun _ _ ⟨h1, h2⟩ => ⟨h1, hb.trans (h2.below.mono hb.size)⟩
theorem part_from {y x : World} (hb : Below y.heap.size y x) (a b n : Int) {p : Nat} (hp : pl n (a, b) = p) : Calls Try.prog 16 #[.agg #[.int .i32 a, .int .i64 b], .int .i64 n] x fun e w' => e = .returned (.int .i64 (p : Int)) ∧ Below y.heap.size y w' := by
  have e : partF (a, b) n = (p : Int) := by have := partF_range (a, b) n; rw [← hp]; unfold pl; omega
  exact (part_any a b n x).mono fun _ _ ⟨h1, h2⟩ => ⟨by rw [h1, e], hb.trans (h2.below.mono hb.size)⟩
/-- How often the key was met in the lists ahead of p. -/
def met (n : Int) (l : List Ky) (k : Ky) (p : Nat) : Int := if k ∈ l ∧ pl n k < p then 1 else 0
theorem met_next (n : Int) (l : List Ky) (k : Ky) (p : Nat) : met n l k (p + 1) = if k ∈ inP n (srt l) p then met n l k p + 1 else met n l k p := by
  unfold met
  simp only [inP_mem]
  by_cases h : k ∈ l
  · by_cases h1 : pl n k = p
    · simp [h, h1]
    · by_cases h2 : pl n k < p
      · simp [h, h1, h2, Nat.lt_succ_of_lt h2]
      · have : ¬ pl n k < p + 1 := by omega
        simp [h, h1, h2, this]
  · simp [h]
set_option maxHeartbeats 6400000 in
theorem whole_walk {v : Value} {l : List Ky} {w : World} (n a b : Int) (hs : SeesL kC 2 w v l) (hok : ∀ k ∈ l, OkK k) (hll : l.length ≤ 8796093021952) :
    Calls Try.prog 8 #[v, .int .i64 n, .agg #[.int .i32 a, .int .i64 b]] w fun e w' => e = .returned (.bool true) ∧ Below w.heap.size w w' := by
  obtain ⟨y, hy⟩ : ∃ y, w.alloc (.cells #[.int .i32 a, .int .i64 b] 23) = y := ⟨_, rfl⟩
  have hwy : Below w.heap.size w y := hy ▸ below_box _
  have xk : y.heap[w.heap.size]? = some (.cells #[.int .i32 a, .int .i64 b] 23) := hy ▸ heap_alloc_new w _
  have HSP := hide (split_any n (hs.below kC_len hwy) hok hll)
  have hmr := manyF_range n
  obtain ⟨m, hm⟩ : ∃ m, (manyF n).toNat = m := ⟨_, rfl⟩
  rw [hm] at HSP
  have hm8 : 1 ≤ m ∧ m ≤ 8 := by omega
  have HM := hide hm
  have HBX : Hid (∀ x, Below y.heap.size y x → x.cell? ⟨w.heap.size, 0, none⟩ = some (.int .i32 a) ∧ x.cell? ⟨w.heap.size, 1, none⟩ = some (.int .i64 b)) := fun x hb => box_cells xk hb
  have HL : Hid (∀ x, Below y.heap.size y x → SeesL kC 2 x v l) := fun x hx => hs.below kC_len (hwy.trans (hx.mono hwy.size))
  have HW := hide hwy
  obtain ⟨av, cv, hv⟩ := hs.shape
  subst hv
  obtain ⟨ln, hln⟩ : ∃ k, l.length = k := ⟨_, rfl⟩
  rw [hln] at HSP HL ⊢
  clear hs hwy xk hm hmr hok hln
  go_enter Try.func8, Try.ntmps8
  go_wp2_with (first | rw [hy] | (go_at_call 28; refine (unhide HSP).mono ?_; rintro e ws ⟨g, rfl, hpar, hbs⟩; have HPR := hide hpar; have HBS := hide hbs; clear hpar hbs))
  have HY : Hid (∀ x, Below ws.heap.size ws x → Below y.heap.size y x) := fun x hx => (unhide HBS).trans (hx.mono (unhide HBS).size)
  obtain ⟨rows, hrl, hgx, hro⟩ : ∃ rows : List Value, rows.length = m ∧ ws.heap[g]? = some (.cells rows.toArray 32) ∧ ∀ (p : Nat) (u : Value), rows[p]? = some u → SeesL kC 2 ws u (inP n (srt l) p) := by
    obtain ⟨_, rows, h1, h2, h3, _⟩ := unhide HPR
    exact ⟨rows, h1, h2, fun p u hu => (own_sees kC_len (by decide) (h3 p u hu)).2⟩
  have HRO := hide hro
  have HGX := hide hgx
  clear hro hgx
  go_wp2_with fail
  go_loopw [7, 18] (fun c q wr => ∃ p : Nat, p ≤ m ∧ c = .int .i64 (met n l (a, b) p) ∧ q = .int .i64 p ∧ Below ws.heap.size ws wr) (fun _ q _ => m - (intOf q).toNat)
  case atStart => exact ⟨0, by omega, by simp [met], rfl, Below.refl _ _⟩
  case round =>
    obtain ⟨p, hp, rfl, rfl, hbr⟩ := hrel
    obtain ⟨wo, rfl⟩ : ∃ x, x = wr := ⟨_, rfl⟩
    have HBR := hide hbr
    by_cases hlt : p < m
    · have hpl : p < rows.length := by omega
      have hcell : wo.cell? ⟨g, p, none⟩ = some rows[p] := by
        rw [cell_at ((hbr.block g (Array.getElem?_eq_some_iff.1 (unhide HGX)).1).trans (unhide HGX))]
        simp [hpl]
      have hsx := unhide HRO p rows[p] (List.getElem?_eq_getElem hpl)
      obtain ⟨ax, cx, hsh⟩ := hsx.shape
      rw [hsh] at hcell hsx
      obtain ⟨X, hX⟩ : ∃ X, inP n (srt l) p = X := ⟨_, rfl⟩
      have hXr : Rises X := hX ▸ inP_rises n l p
      have hXm : ∀ k ∈ X, k ∈ l ∧ pl n k = p := fun k hk => (inP_mem n l p k).1 (hX ▸ hk)
      have hnext := met_next n l (a, b) p
      rw [hX] at hcell hsx hnext
      have HSX : Hid (∀ x, Below ws.heap.size ws x → SeesL kC 2 x (.slice ax X.length cx) X) := fun x hx => hsx.below kC_len hx
      have HXR := hide hXr
      have HXM := hide hXm
      have HNX := hide hnext
      obtain ⟨xn, hxn⟩ : ∃ k, X.length = k := ⟨_, rfl⟩
      have HXN := hide hxn
      obtain ⟨hcx, hxmax⟩ : xn ≤ cx ∧ xn ≤ 9223372036854775807 := by
        obtain ⟨_, _, _, _, e, h2, h3, _⟩ := hsx
        simp only [Value.slice.injEq] at e
        obtain ⟨_, _, rfl⟩ := e
        omega
      rw [hxn] at hcell HSX
      clear hpl hsx hsh hX hXr hXm hnext hxn hbr
      go_wp2_with fail
      go_loopw [25] (fun q wi => ∃ i : Nat, i ≤ xn ∧ q = .int .i64 i ∧ Below ws.heap.size ws wi) (fun q _ => xn - (intOf q).toNat)
      case atStart => exact ⟨0, by omega, rfl, unhide HBR⟩
      case round =>
        obtain ⟨i, hi, rfl, hbi⟩ := hrel
        have HBI := hide hbi
        by_cases hix : i < xn
        · have hxl := unhide HXN
          have hil : i < X.length := by omega
          have hsx := unhide HSX wr hbi
          rw [← hxl] at hsx
          obtain ⟨gb, ob, hao, -, hci⟩ := key_cells hsx rfl hil
          subst hao
          obtain ⟨⟨c, d⟩, hx⟩ : ∃ k, X.getD i default = k := ⟨_, rfl⟩
          have hmem : (c, d) ∈ X := by rw [← hx]; simp [List.getD, hil]
          have hpc : pl n (c, d) = p := (unhide HXM _ hmem).2
          have hlc : decide ((c, d) ∈ l) = true := decide_eq_true (unhide HXM _ hmem).1
          rw [hx] at hci
          have HCI := hide hci
          have HPC : Hid (∀ x, Below wr.heap.size wr x → Calls Try.prog 16 #[.agg #[.int .i32 c, .int .i64 d], .int .i64 n] x fun e w' => e = .returned (.int .i64 (p : Int)) ∧ Below wr.heap.size wr w') := fun x hx => part_from hx c d n hpc
          have HHC : Hid (∀ x, Below wr.heap.size wr x → Calls Try.prog 24 #[.slice av ln cv, .agg #[.int .i32 c, .int .i64 d]] x fun e w' => e = .returned (.bool true) ∧ Below wr.heap.size wr w') := fun x hx => has_from (unhide HL x (unhide HY x ((unhide HBI).trans (hx.mono (unhide HBI).size)))) hx c d hlc
          by_cases hi0 : i = 0
          · subst hi0
            clear hxl hil hsx hx hmem hpc hlc hci hbi
            go_wp2_with fail
            refine wp_region_held_drew (S := fun x => Below wr.heap.size wr x) (by kernel_rfl) ((Below.refl _ _).drew) (fun hHeld => ?_)
            refine wpAnyH_take (i := 0) (v := ?v1x0) rfl (by as_aux_lemma => kernel_rfl) (by as_aux_lemma => kernel_rfl) (by as_aux_lemma => kernel_rfl) (fun _ _ _ h => h) (Or.inl ⟨by rfl, ?hy1x0⟩) (by assumption) ?rest1x0
            case hy1x0 => intro w hSw; go_simp <;> with_reducible rfl
            simp only [Act.put, List.getElem_toArray, List.getElem_cons_zero, List.setIfInBounds_toArray, List.set_cons_zero, List.set_cons_succ]
            refine wpAnyH_take (i := 1) (v := ?v2x1) rfl (by as_aux_lemma => kernel_rfl) (by as_aux_lemma => kernel_rfl) (by as_aux_lemma => kernel_rfl) (fun _ _ _ h => h) (Or.inl ⟨by rfl, ?hy2x1⟩) (by assumption) ?rest2x1
            case hy2x1 => intro w hSw; go_simp <;> with_reducible rfl
            simp only [Act.put, List.getElem_toArray, List.getElem_cons_zero, List.getElem_cons_succ, List.setIfInBounds_toArray, List.set_cons_zero, List.set_cons_succ]
            refine wpAnyH_take (i := 2) (v := ?v3x2) rfl (by as_aux_lemma => kernel_rfl) (by as_aux_lemma => kernel_rfl) (by as_aux_lemma => kernel_rfl) (fun _ _ _ h => h) (Or.inl ⟨by rfl, ?hy3x2⟩) (by assumption) ?rest3x2
            case hy3x2 => intro w hSw; go_simp <;> with_reducible rfl
            simp only [Act.put, List.getElem_toArray, List.getElem_cons_zero, List.getElem_cons_succ, List.setIfInBounds_toArray, List.set_cons_zero, List.set_cons_succ]
            refine wpAnyH_take (i := 3) (v := (.agg #[.int .i32 c, .int .i64 d])) rfl (by as_aux_lemma => kernel_rfl) (by as_aux_lemma => kernel_rfl) (by as_aux_lemma => kernel_rfl) (fun _ _ _ h => h) (Or.inl ⟨by rfl, ?hy4x3⟩) (by assumption) ?rest4x3
            case hy4x3 => intro w hSw; obtain ⟨s1, s2⟩ := unhide HCI _ hSw; simp only [Nat.zero_mul, Nat.add_zero] at s1 s2; go_simp <;> with_reducible rfl
            simp only [Act.put, List.getElem_toArray, List.getElem_cons_zero, List.getElem_cons_succ, List.setIfInBounds_toArray, List.set_cons_zero, List.set_cons_succ]
            refine wpAnyH_take (i := 4) (v := ?v5x4) rfl (by as_aux_lemma => kernel_rfl) (by as_aux_lemma => kernel_rfl) (by as_aux_lemma => kernel_rfl) (fun _ _ _ h => h) (Or.inl ⟨by rfl, ?hy5x4⟩) (by assumption) ?rest5x4
            case hy5x4 => intro w hSw; go_simp <;> with_reducible rfl
            simp only [Act.put, List.getElem_toArray, List.getElem_cons_zero, List.getElem_cons_succ, List.setIfInBounds_toArray, List.set_cons_zero, List.set_cons_succ]
            refine wpAnyH_take (i := 6) (v := ?v6x6) rfl (by as_aux_lemma => kernel_rfl) (by as_aux_lemma => kernel_rfl) (by as_aux_lemma => kernel_rfl) (fun _ _ _ h => h) (Or.inl ⟨by rfl, ?hy6x6⟩) (by assumption) ?rest6x6
            case hy6x6 => intro w hSw; go_simp <;> with_reducible rfl
            simp only [Act.put, List.getElem_toArray, List.getElem_cons_zero, List.getElem_cons_succ, List.setIfInBounds_toArray, List.set_cons_zero, List.set_cons_succ]
            refine wpAnyH_ready (rs := [5]) (by as_aux_lemma => kernel_rfl) (by simp) ?_
            refine AllReadyH.cons rfl (fun K hK => ?_) AllReadyH.nil
            go_simp
            refine (unhide HPC _ (by assumption)).mono ?_
            rintro e wq ⟨rfl, hb1⟩
            refine hK _ _ hb1 ?_
            clear hK hHeld
            intro hHeld
            refine wpAnyH_take (i := 7) (v := (.bool false)) rfl (by as_aux_lemma => kernel_rfl) (by as_aux_lemma => kernel_rfl) (by as_aux_lemma => kernel_rfl) (fun _ _ _ h => h) (Or.inl ⟨by rfl, ?hy7x7⟩) (by assumption) ?rest7x7
            case hy7x7 => intro w hSw; go_simp <;> with_reducible rfl
            simp only [Act.put, List.getElem_toArray, List.getElem_cons_zero, List.getElem_cons_succ, List.setIfInBounds_toArray, List.set_cons_zero, List.set_cons_succ]
            refine wpAnyH_take (i := 8) (v := ?v8x8) rfl (by as_aux_lemma => kernel_rfl) (by as_aux_lemma => kernel_rfl) (by as_aux_lemma => kernel_rfl) (fun _ _ _ h => h) (Or.inl ⟨by rfl, ?hy8x8⟩) (by assumption) ?rest8x8
            case hy8x8 => intro w hSw; go_simp <;> with_reducible rfl
            simp only [Act.put, List.getElem_toArray, List.getElem_cons_zero, List.getElem_cons_succ, List.setIfInBounds_toArray, List.set_cons_zero, List.set_cons_succ]
            refine wpAnyH_take (i := 9) (v := ?v9x9) rfl (by as_aux_lemma => kernel_rfl) (by as_aux_lemma => kernel_rfl) (by as_aux_lemma => kernel_rfl) (fun _ _ _ h => h) (Or.inl ⟨by rfl, ?hy9x9⟩) (by assumption) ?rest9x9
            case hy9x9 => intro w hSw; go_simp <;> with_reducible rfl
            simp only [Act.put, List.getElem_toArray, List.getElem_cons_zero, List.getElem_cons_succ, List.setIfInBounds_toArray, List.set_cons_zero, List.set_cons_succ]
            refine wpAnyH_take (i := 10) (v := (.bool false)) rfl (by as_aux_lemma => kernel_rfl) (by as_aux_lemma => kernel_rfl) (by as_aux_lemma => kernel_rfl) (fun _ _ _ h => h) (Or.inl ⟨by rfl, ?hy10x10⟩) (by assumption) ?rest10x10
            case hy10x10 => intro w hSw; go_simp <;> with_reducible rfl
            simp only [Act.put, List.getElem_toArray, List.getElem_cons_zero, List.getElem_cons_succ, List.setIfInBounds_toArray, List.set_cons_zero, List.set_cons_succ]
            refine wpAnyH_take (i := 11) (v := ?v11x11) rfl (by as_aux_lemma => kernel_rfl) (by as_aux_lemma => kernel_rfl) (by as_aux_lemma => kernel_rfl) (fun _ _ _ h => h) (Or.inl ⟨by rfl, ?hy11x11⟩) (by assumption) ?rest11x11
            case hy11x11 => intro w hSw; go_simp <;> with_reducible rfl
            simp only [Act.put, List.getElem_toArray, List.getElem_cons_zero, List.getElem_cons_succ, List.setIfInBounds_toArray, List.set_cons_zero, List.set_cons_succ]
            refine wpAnyH_take (i := 12) (v := undef) rfl (by as_aux_lemma => kernel_rfl) (by as_aux_lemma => kernel_rfl) (by as_aux_lemma => kernel_rfl) (fun _ _ _ h => h) (Or.inr ⟨by rfl, rfl⟩) (by assumption) ?_
            simp only [Act.put, List.getElem_toArray, List.getElem_cons_zero, List.getElem_cons_succ, List.setIfInBounds_toArray, List.set_cons_zero, List.set_cons_succ]
            refine wpAnyH_take (i := 13) (v := undef) rfl (by as_aux_lemma => kernel_rfl) (by as_aux_lemma => kernel_rfl) (by as_aux_lemma => kernel_rfl) (fun _ _ _ h => h) (Or.inr ⟨by rfl, rfl⟩) (by assumption) ?_
            simp only [Act.put, List.getElem_toArray, List.getElem_cons_zero, List.getElem_cons_succ, List.setIfInBounds_toArray, List.set_cons_zero, List.set_cons_succ]
            refine wpAnyH_take (i := 14) (v := undef) rfl (by as_aux_lemma => kernel_rfl) (by as_aux_lemma => kernel_rfl) (by as_aux_lemma => kernel_rfl) (fun _ _ _ h => h) (Or.inr ⟨by rfl, rfl⟩) (by assumption) ?_
            simp only [Act.put, List.getElem_toArray, List.getElem_cons_zero, List.getElem_cons_succ, List.setIfInBounds_toArray, List.set_cons_zero, List.set_cons_succ]
            refine wpAnyH_take (i := 15) (v := undef) rfl (by as_aux_lemma => kernel_rfl) (by as_aux_lemma => kernel_rfl) (by as_aux_lemma => kernel_rfl) (fun _ _ _ h => h) (Or.inr ⟨by rfl, rfl⟩) (by assumption) ?_
            simp only [Act.put, List.getElem_toArray, List.getElem_cons_zero, List.getElem_cons_succ, List.setIfInBounds_toArray, List.set_cons_zero, List.set_cons_succ]
            refine wpAnyH_take (i := 16) (v := undef) rfl (by as_aux_lemma => kernel_rfl) (by as_aux_lemma => kernel_rfl) (by as_aux_lemma => kernel_rfl) (fun _ _ _ h => h) (Or.inr ⟨by rfl, rfl⟩) (by assumption) ?_
            simp only [Act.put, List.getElem_toArray, List.getElem_cons_zero, List.getElem_cons_succ, List.setIfInBounds_toArray, List.set_cons_zero, List.set_cons_succ]
            refine wpAnyH_take (i := 17) (v := undef) rfl (by as_aux_lemma => kernel_rfl) (by as_aux_lemma => kernel_rfl) (by as_aux_lemma => kernel_rfl) (fun _ _ _ h => h) (Or.inr ⟨by rfl, rfl⟩) (by assumption) ?_
            simp only [Act.put, List.getElem_toArray, List.getElem_cons_zero, List.getElem_cons_succ, List.setIfInBounds_toArray, List.set_cons_zero, List.set_cons_succ]
            refine wpAnyH_take (i := 18) (v := undef) rfl (by as_aux_lemma => kernel_rfl) (by as_aux_lemma => kernel_rfl) (by as_aux_lemma => kernel_rfl) (fun _ _ _ h => h) (Or.inr ⟨by rfl, rfl⟩) (by assumption) ?_
            simp only [Act.put, List.getElem_toArray, List.getElem_cons_zero, List.getElem_cons_succ, List.setIfInBounds_toArray, List.set_cons_zero, List.set_cons_succ]
            refine wpAnyH_take (i := 19) (v := undef) rfl (by as_aux_lemma => kernel_rfl) (by as_aux_lemma => kernel_rfl) (by as_aux_lemma => kernel_rfl) (fun _ _ _ h => h) (Or.inr ⟨by rfl, rfl⟩) (by assumption) ?_
            simp only [Act.put, List.getElem_toArray, List.getElem_cons_zero, List.getElem_cons_succ, List.setIfInBounds_toArray, List.set_cons_zero, List.set_cons_succ]
            refine wpAnyH_take (i := 20) (v := undef) rfl (by as_aux_lemma => kernel_rfl) (by as_aux_lemma => kernel_rfl) (by as_aux_lemma => kernel_rfl) (fun _ _ _ h => h) (Or.inr ⟨by rfl, rfl⟩) (by assumption) ?_
            simp only [Act.put, List.getElem_toArray, List.getElem_cons_zero, List.getElem_cons_succ, List.setIfInBounds_toArray, List.set_cons_zero, List.set_cons_succ]
            refine wpAnyH_take (i := 21) (v := undef) rfl (by as_aux_lemma => kernel_rfl) (by as_aux_lemma => kernel_rfl) (by as_aux_lemma => kernel_rfl) (fun _ _ _ h => h) (Or.inr ⟨by rfl, rfl⟩) (by assumption) ?_
            simp only [Act.put, List.getElem_toArray, List.getElem_cons_zero, List.getElem_cons_succ, List.setIfInBounds_toArray, List.set_cons_zero, List.set_cons_succ]
            refine wpAnyH_take (i := 22) (v := undef) rfl (by as_aux_lemma => kernel_rfl) (by as_aux_lemma => kernel_rfl) (by as_aux_lemma => kernel_rfl) (fun _ _ _ h => h) (Or.inr ⟨by rfl, rfl⟩) (by assumption) ?_
            simp only [Act.put, List.getElem_toArray, List.getElem_cons_zero, List.getElem_cons_succ, List.setIfInBounds_toArray, List.set_cons_zero, List.set_cons_succ]
            refine wpAnyH_take (i := 23) (v := (.bool false)) rfl (by as_aux_lemma => kernel_rfl) (by as_aux_lemma => kernel_rfl) (by as_aux_lemma => kernel_rfl) (fun _ _ _ h => h) (Or.inl ⟨by rfl, ?hy23x23⟩) (by assumption) ?rest23x23
            case hy23x23 => intro w hSw; go_simp <;> with_reducible rfl
            simp only [Act.put, List.getElem_toArray, List.getElem_cons_zero, List.getElem_cons_succ, List.setIfInBounds_toArray, List.set_cons_zero, List.set_cons_succ]
            refine wpAnyH_take (i := 24) (v := (.bool false)) rfl (by as_aux_lemma => kernel_rfl) (by as_aux_lemma => kernel_rfl) (by as_aux_lemma => kernel_rfl) (fun _ _ _ h => h) (Or.inl ⟨by rfl, ?hy24x24⟩) (by assumption) ?rest24x24
            case hy24x24 => intro w hSw; go_simp <;> with_reducible rfl
            simp only [Act.put, List.getElem_toArray, List.getElem_cons_zero, List.getElem_cons_succ, List.setIfInBounds_toArray, List.set_cons_zero, List.set_cons_succ]
            refine wpAnyH_take (i := 25) (v := ?v25x25) rfl (by as_aux_lemma => kernel_rfl) (by as_aux_lemma => kernel_rfl) (by as_aux_lemma => kernel_rfl) (fun _ _ _ h => h) (Or.inl ⟨by rfl, ?hy25x25⟩) (by assumption) ?rest25x25
            case hy25x25 => intro w hSw; go_simp <;> with_reducible rfl
            simp only [Act.put, List.getElem_toArray, List.getElem_cons_zero, List.getElem_cons_succ, List.setIfInBounds_toArray, List.set_cons_zero, List.set_cons_succ]
            refine wpAnyH_take (i := 26) (v := ?v26x26) rfl (by as_aux_lemma => kernel_rfl) (by as_aux_lemma => kernel_rfl) (by as_aux_lemma => kernel_rfl) (fun _ _ _ h => h) (Or.inl ⟨by rfl, ?hy26x26⟩) (by assumption) ?rest26x26
            case hy26x26 => intro w hSw; go_simp <;> with_reducible rfl
            simp only [Act.put, List.getElem_toArray, List.getElem_cons_zero, List.getElem_cons_succ, List.setIfInBounds_toArray, List.set_cons_zero, List.set_cons_succ]
            refine wpAnyH_take (i := 27) (v := ?v27x27) rfl (by as_aux_lemma => kernel_rfl) (by as_aux_lemma => kernel_rfl) (by as_aux_lemma => kernel_rfl) (fun _ _ _ h => h) (Or.inl ⟨by rfl, ?hy27x27⟩) (by assumption) ?rest27x27
            case hy27x27 => intro w hSw; go_simp <;> with_reducible rfl
            simp only [Act.put, List.getElem_toArray, List.getElem_cons_zero, List.getElem_cons_succ, List.setIfInBounds_toArray, List.set_cons_zero, List.set_cons_succ]
            refine wpAnyH_take (i := 28) (v := ?v28x28) rfl (by as_aux_lemma => kernel_rfl) (by as_aux_lemma => kernel_rfl) (by as_aux_lemma => kernel_rfl) (fun _ _ _ h => h) (Or.inl ⟨by rfl, ?hy28x28⟩) (by assumption) ?rest28x28
            case hy28x28 => intro w hSw; go_simp <;> with_reducible rfl
            simp only [Act.put, List.getElem_toArray, List.getElem_cons_zero, List.getElem_cons_succ, List.setIfInBounds_toArray, List.set_cons_zero, List.set_cons_succ]
            refine wpAnyH_take (i := 29) (v := ?v29x29) rfl (by as_aux_lemma => kernel_rfl) (by as_aux_lemma => kernel_rfl) (by as_aux_lemma => kernel_rfl) (fun _ _ _ h => h) (Or.inl ⟨by rfl, ?hy29x29⟩) (by assumption) ?rest29x29
            case hy29x29 => intro w hSw; go_simp <;> with_reducible rfl
            simp only [Act.put, List.getElem_toArray, List.getElem_cons_zero, List.getElem_cons_succ, List.setIfInBounds_toArray, List.set_cons_zero, List.set_cons_succ]
            refine wpAnyH_take (i := 30) (v := (.agg #[.int .i32 c, .int .i64 d])) rfl (by as_aux_lemma => kernel_rfl) (by as_aux_lemma => kernel_rfl) (by as_aux_lemma => kernel_rfl) (fun _ _ _ h => h) (Or.inl ⟨by rfl, ?hy30x30⟩) (by assumption) ?rest30x30
            case hy30x30 => intro w hSw; obtain ⟨s1, s2⟩ := unhide HCI _ hSw; simp only [Nat.zero_mul, Nat.add_zero] at s1 s2; go_simp <;> with_reducible rfl
            simp only [Act.put, List.getElem_toArray, List.getElem_cons_zero, List.getElem_cons_succ, List.setIfInBounds_toArray, List.set_cons_zero, List.set_cons_succ]
            refine wpAnyH_ready (rs := [31]) (by as_aux_lemma => kernel_rfl) (by simp) ?_
            refine AllReadyH.cons rfl (fun K hK => ?_) AllReadyH.nil
            go_simp
            refine (unhide HHC _ (by assumption)).mono ?_
            rintro e wq ⟨rfl, hb1⟩
            refine hK _ _ hb1 ?_
            clear hK hHeld
            intro hHeld
            refine wpAnyH_take (i := 32) (v := (.bool false)) rfl (by as_aux_lemma => kernel_rfl) (by as_aux_lemma => kernel_rfl) (by as_aux_lemma => kernel_rfl) (fun _ _ _ h => h) (Or.inl ⟨by rfl, ?hy31x32⟩) (by assumption) ?rest31x32
            case hy31x32 => intro w hSw; go_simp <;> with_reducible rfl
            simp only [Act.put, List.getElem_toArray, List.getElem_cons_zero, List.getElem_cons_succ, List.setIfInBounds_toArray, List.set_cons_zero, List.set_cons_succ]
            refine wpAnyH_take (i := 33) (v := (.bool false)) rfl (by as_aux_lemma => kernel_rfl) (by as_aux_lemma => kernel_rfl) (by as_aux_lemma => kernel_rfl) (fun _ _ _ h => h) (Or.inl ⟨by rfl, ?hy32x33⟩) (by assumption) ?rest32x33
            case hy32x33 => intro w hSw; go_simp <;> with_reducible rfl
            simp only [Act.put, List.getElem_toArray, List.getElem_cons_zero, List.getElem_cons_succ, List.setIfInBounds_toArray, List.set_cons_zero, List.set_cons_succ]
            refine wpAnyH_done (by as_aux_lemma => kernel_rfl) ?_ _
            go_wp2
            go_roundw
            case rel => exact ⟨0 + 1, by omega, by go_num, (unhide HBI).trans (hb1.mono (unhide HBI).size)⟩
            case measure => simp [intOf]; omega
          · obtain ⟨j, hij⟩ : ∃ j, i = j + 1 := ⟨i - 1, by omega⟩
            have hjl : j < X.length := by omega
            have hjx : j < xn := by omega
            obtain ⟨gb', ob', hao', -, hcj⟩ := key_cells hsx rfl hjl
            simp only [Option.some.injEq, Addr.mk.injEq, and_true] at hao'
            obtain ⟨rfl, rfl⟩ := hao'
            obtain ⟨⟨e, f⟩, hxj⟩ : ∃ k, X.getD j default = k := ⟨_, rfl⟩
            rw [hxj] at hcj
            have hltk : ltK (e, f) (c, d) := by
              have := List.pairwise_iff_getElem.1 (unhide HXR) j i hjl hil (by omega)
              have e1 : X[j] = (e, f) := by rw [← hxj]; simp [List.getD, hjl]
              have e2 : X[i] = (c, d) := by rw [← hx]; simp [List.getD, hil]
              rw [e1, e2] at this
              exact this
            have hcmp : cmpK (e, f) (c, d) = -1 := by
              have h1 := (cmpK_neg _ _).2 hltk
              rcases cmpK_range (e, f) (c, d) with h | h | h <;> omega
            have HCJ := hide hcj
            have HCM : Hid (∀ x, Below wr.heap.size wr x → Calls Try.prog 10 #[.agg #[.int .i32 e, .int .i64 f], .agg #[.int .i32 c, .int .i64 d]] x fun e w' => e = .returned (.int .i64 (-1)) ∧ Below wr.heap.size wr w') := fun x hx => cmp_from (a := (e, f)) (b := (c, d)) hcmp hx
            have hsub : IntKind.i64.wrap ((i : Int) - 1) = (j : Int) := by rw [wrap_i64 _ (by omega) (by omega)]; omega
            have HSUB := hide hsub
            have hgt0 : 0 < i := by omega
            have hgt : decide ((i : Int) > 0) = true := decide_eq_true (by omega)
            clear hxl hil hsx hx hmem hpc hlc hci hbi hjl hxj hcj hltk hcmp hsub hij
            go_wp2_with fail
            refine wp_region_held_drew (S := fun x => Below wr.heap.size wr x) (by kernel_rfl) ((Below.refl _ _).drew) (fun hHeld => ?_)
            refine wpAnyH_take (i := 0) (v := ?v33x0) rfl (by as_aux_lemma => kernel_rfl) (by as_aux_lemma => kernel_rfl) (by as_aux_lemma => kernel_rfl) (fun _ _ _ h => h) (Or.inl ⟨by rfl, ?hy33x0⟩) (by assumption) ?rest33x0
            case hy33x0 => intro w hSw; go_simp <;> with_reducible rfl
            simp only [Act.put, List.getElem_toArray, List.getElem_cons_zero, List.setIfInBounds_toArray, List.set_cons_zero, List.set_cons_succ]
            refine wpAnyH_take (i := 1) (v := ?v34x1) rfl (by as_aux_lemma => kernel_rfl) (by as_aux_lemma => kernel_rfl) (by as_aux_lemma => kernel_rfl) (fun _ _ _ h => h) (Or.inl ⟨by rfl, ?hy34x1⟩) (by assumption) ?rest34x1
            case hy34x1 => intro w hSw; go_simp <;> with_reducible rfl
            simp only [Act.put, List.getElem_toArray, List.getElem_cons_zero, List.getElem_cons_succ, List.setIfInBounds_toArray, List.set_cons_zero, List.set_cons_succ]
            refine wpAnyH_take (i := 2) (v := ?v35x2) rfl (by as_aux_lemma => kernel_rfl) (by as_aux_lemma => kernel_rfl) (by as_aux_lemma => kernel_rfl) (fun _ _ _ h => h) (Or.inl ⟨by rfl, ?hy35x2⟩) (by assumption) ?rest35x2
            case hy35x2 => intro w hSw; go_simp <;> with_reducible rfl
            simp only [Act.put, List.getElem_toArray, List.getElem_cons_zero, List.getElem_cons_succ, List.setIfInBounds_toArray, List.set_cons_zero, List.set_cons_succ]
            refine wpAnyH_take (i := 3) (v := (.agg #[.int .i32 c, .int .i64 d])) rfl (by as_aux_lemma => kernel_rfl) (by as_aux_lemma => kernel_rfl) (by as_aux_lemma => kernel_rfl) (fun _ _ _ h => h) (Or.inl ⟨by rfl, ?hy36x3⟩) (by assumption) ?rest36x3
            case hy36x3 => intro w hSw; obtain ⟨s1, s2⟩ := unhide HCI _ hSw; go_simp <;> with_reducible rfl
            simp only [Act.put, List.getElem_toArray, List.getElem_cons_zero, List.getElem_cons_succ, List.setIfInBounds_toArray, List.set_cons_zero, List.set_cons_succ]
            refine wpAnyH_take (i := 4) (v := ?v37x4) rfl (by as_aux_lemma => kernel_rfl) (by as_aux_lemma => kernel_rfl) (by as_aux_lemma => kernel_rfl) (fun _ _ _ h => h) (Or.inl ⟨by rfl, ?hy37x4⟩) (by assumption) ?rest37x4
            case hy37x4 => intro w hSw; go_simp <;> with_reducible rfl
            simp only [Act.put, List.getElem_toArray, List.getElem_cons_zero, List.getElem_cons_succ, List.setIfInBounds_toArray, List.set_cons_zero, List.set_cons_succ]
            refine wpAnyH_take (i := 6) (v := ?v38x6) rfl (by as_aux_lemma => kernel_rfl) (by as_aux_lemma => kernel_rfl) (by as_aux_lemma => kernel_rfl) (fun _ _ _ h => h) (Or.inl ⟨by rfl, ?hy38x6⟩) (by assumption) ?rest38x6
            case hy38x6 => intro w hSw; go_simp <;> with_reducible rfl
            simp only [Act.put, List.getElem_toArray, List.getElem_cons_zero, List.getElem_cons_succ, List.setIfInBounds_toArray, List.set_cons_zero, List.set_cons_succ]
            refine wpAnyH_ready (rs := [5]) (by as_aux_lemma => kernel_rfl) (by simp) ?_
            refine AllReadyH.cons rfl (fun K hK => ?_) AllReadyH.nil
            go_simp
            refine (unhide HPC _ (by assumption)).mono ?_
            rintro e wq ⟨rfl, hb1⟩
            refine hK _ _ hb1 ?_
            clear hK hHeld
            intro hHeld
            refine wpAnyH_take (i := 7) (v := (.bool false)) rfl (by as_aux_lemma => kernel_rfl) (by as_aux_lemma => kernel_rfl) (by as_aux_lemma => kernel_rfl) (fun _ _ _ h => h) (Or.inl ⟨by rfl, ?hy39x7⟩) (by assumption) ?rest39x7
            case hy39x7 => intro w hSw; go_simp <;> with_reducible rfl
            simp only [Act.put, List.getElem_toArray, List.getElem_cons_zero, List.getElem_cons_succ, List.setIfInBounds_toArray, List.set_cons_zero, List.set_cons_succ]
            refine wpAnyH_take (i := 8) (v := ?v40x8) rfl (by as_aux_lemma => kernel_rfl) (by as_aux_lemma => kernel_rfl) (by as_aux_lemma => kernel_rfl) (fun _ _ _ h => h) (Or.inl ⟨by rfl, ?hy40x8⟩) (by assumption) ?rest40x8
            case hy40x8 => intro w hSw; go_simp <;> with_reducible rfl
            simp only [Act.put, List.getElem_toArray, List.getElem_cons_zero, List.getElem_cons_succ, List.setIfInBounds_toArray, List.set_cons_zero, List.set_cons_succ]
            refine wpAnyH_take (i := 9) (v := ?v41x9) rfl (by as_aux_lemma => kernel_rfl) (by as_aux_lemma => kernel_rfl) (by as_aux_lemma => kernel_rfl) (fun _ _ _ h => h) (Or.inl ⟨by rfl, ?hy41x9⟩) (by assumption) ?rest41x9
            case hy41x9 => intro w hSw; go_simp <;> with_reducible rfl
            simp only [Act.put, List.getElem_toArray, List.getElem_cons_zero, List.getElem_cons_succ, List.setIfInBounds_toArray, List.set_cons_zero, List.set_cons_succ]
            refine wpAnyH_take (i := 10) (v := (.bool true)) rfl (by as_aux_lemma => kernel_rfl) (by as_aux_lemma => kernel_rfl) (by as_aux_lemma => kernel_rfl) (fun _ _ _ h => h) (Or.inl ⟨by rfl, ?hy42x10⟩) (by assumption) ?rest42x10
            case hy42x10 => intro w hSw; go_simp <;> with_reducible rfl
            simp only [Act.put, List.getElem_toArray, List.getElem_cons_zero, List.getElem_cons_succ, List.setIfInBounds_toArray, List.set_cons_zero, List.set_cons_succ]
            refine wpAnyH_take (i := 11) (v := ?v43x11) rfl (by as_aux_lemma => kernel_rfl) (by as_aux_lemma => kernel_rfl) (by as_aux_lemma => kernel_rfl) (fun _ _ _ h => h) (Or.inl ⟨by rfl, ?hy43x11⟩) (by assumption) ?rest43x11
            case hy43x11 => intro w hSw; go_simp <;> with_reducible rfl
            simp only [Act.put, List.getElem_toArray, List.getElem_cons_zero, List.getElem_cons_succ, List.setIfInBounds_toArray, List.set_cons_zero, List.set_cons_succ]
            refine wpAnyH_take (i := 12) (v := ?v44x12) rfl (by as_aux_lemma => kernel_rfl) (by as_aux_lemma => kernel_rfl) (by as_aux_lemma => kernel_rfl) (fun _ _ _ h => h) (Or.inl ⟨by rfl, ?hy44x12⟩) (by assumption) ?rest44x12
            case hy44x12 => intro w hSw; go_simp <;> with_reducible rfl
            simp only [Act.put, List.getElem_toArray, List.getElem_cons_zero, List.getElem_cons_succ, List.setIfInBounds_toArray, List.set_cons_zero, List.set_cons_succ]
            refine wpAnyH_take (i := 13) (v := ?v45x13) rfl (by as_aux_lemma => kernel_rfl) (by as_aux_lemma => kernel_rfl) (by as_aux_lemma => kernel_rfl) (fun _ _ _ h => h) (Or.inl ⟨by rfl, ?hy45x13⟩) (by assumption) ?rest45x13
            case hy45x13 => intro w hSw; go_simp <;> with_reducible rfl
            simp only [Act.put, List.getElem_toArray, List.getElem_cons_zero, List.getElem_cons_succ, List.setIfInBounds_toArray, List.set_cons_zero, List.set_cons_succ]
            refine wpAnyH_take (i := 14) (v := (.int .i64 (j : Int))) rfl (by as_aux_lemma => kernel_rfl) (by as_aux_lemma => kernel_rfl) (by as_aux_lemma => kernel_rfl) (fun _ _ _ h => h) (Or.inl ⟨by rfl, ?hy46x14⟩) (by assumption) ?rest46x14
            case hy46x14 => intro w hSw; have hsu := unhide HSUB; go_simp <;> with_reducible rfl
            simp only [Act.put, List.getElem_toArray, List.getElem_cons_zero, List.getElem_cons_succ, List.setIfInBounds_toArray, List.set_cons_zero, List.set_cons_succ]
            refine wpAnyH_take (i := 15) (v := ?v47x15) rfl (by as_aux_lemma => kernel_rfl) (by as_aux_lemma => kernel_rfl) (by as_aux_lemma => kernel_rfl) (fun _ _ _ h => h) (Or.inl ⟨by rfl, ?hy47x15⟩) (by assumption) ?rest47x15
            case hy47x15 => intro w hSw; go_simp <;> with_reducible rfl
            simp only [Act.put, List.getElem_toArray, List.getElem_cons_zero, List.getElem_cons_succ, List.setIfInBounds_toArray, List.set_cons_zero, List.set_cons_succ]
            refine wpAnyH_take (i := 16) (v := (.agg #[.int .i32 e, .int .i64 f])) rfl (by as_aux_lemma => kernel_rfl) (by as_aux_lemma => kernel_rfl) (by as_aux_lemma => kernel_rfl) (fun _ _ _ h => h) (Or.inl ⟨by rfl, ?hy48x16⟩) (by assumption) ?rest48x16
            case hy48x16 => intro w hSw; obtain ⟨s1, s2⟩ := unhide HCJ _ hSw; go_simp <;> with_reducible rfl
            simp only [Act.put, List.getElem_toArray, List.getElem_cons_zero, List.getElem_cons_succ, List.setIfInBounds_toArray, List.set_cons_zero, List.set_cons_succ]
            refine wpAnyH_take (i := 17) (v := ?v49x17) rfl (by as_aux_lemma => kernel_rfl) (by as_aux_lemma => kernel_rfl) (by as_aux_lemma => kernel_rfl) (fun _ _ _ h => h) (Or.inl ⟨by rfl, ?hy49x17⟩) (by assumption) ?rest49x17
            case hy49x17 => intro w hSw; go_simp <;> with_reducible rfl
            simp only [Act.put, List.getElem_toArray, List.getElem_cons_zero, List.getElem_cons_succ, List.setIfInBounds_toArray, List.set_cons_zero, List.set_cons_succ]
            refine wpAnyH_take (i := 18) (v := ?v50x18) rfl (by as_aux_lemma => kernel_rfl) (by as_aux_lemma => kernel_rfl) (by as_aux_lemma => kernel_rfl) (fun _ _ _ h => h) (Or.inl ⟨by rfl, ?hy50x18⟩) (by assumption) ?rest50x18
            case hy50x18 => intro w hSw; go_simp <;> with_reducible rfl
            simp only [Act.put, List.getElem_toArray, List.getElem_cons_zero, List.getElem_cons_succ, List.setIfInBounds_toArray, List.set_cons_zero, List.set_cons_succ]
            refine wpAnyH_take (i := 19) (v := ?v51x19) rfl (by as_aux_lemma => kernel_rfl) (by as_aux_lemma => kernel_rfl) (by as_aux_lemma => kernel_rfl) (fun _ _ _ h => h) (Or.inl ⟨by rfl, ?hy51x19⟩) (by assumption) ?rest51x19
            case hy51x19 => intro w hSw; go_simp <;> with_reducible rfl
            simp only [Act.put, List.getElem_toArray, List.getElem_cons_zero, List.getElem_cons_succ, List.setIfInBounds_toArray, List.set_cons_zero, List.set_cons_succ]
            refine wpAnyH_take (i := 20) (v := (.agg #[.int .i32 c, .int .i64 d])) rfl (by as_aux_lemma => kernel_rfl) (by as_aux_lemma => kernel_rfl) (by as_aux_lemma => kernel_rfl) (fun _ _ _ h => h) (Or.inl ⟨by rfl, ?hy52x20⟩) (by assumption) ?rest52x20
            case hy52x20 => intro w hSw; obtain ⟨s1, s2⟩ := unhide HCI _ hSw; go_simp <;> with_reducible rfl
            simp only [Act.put, List.getElem_toArray, List.getElem_cons_zero, List.getElem_cons_succ, List.setIfInBounds_toArray, List.set_cons_zero, List.set_cons_succ]
            refine wpAnyH_ready (rs := [21]) (by as_aux_lemma => kernel_rfl) (by simp) ?_
            refine AllReadyH.cons rfl (fun K hK => ?_) AllReadyH.nil
            go_simp
            refine (unhide HCM _ (by assumption)).mono ?_
            rintro e wq ⟨rfl, hb1⟩
            refine hK _ _ hb1 ?_
            clear hK hHeld
            intro hHeld
            refine wpAnyH_take (i := 22) (v := (.bool false)) rfl (by as_aux_lemma => kernel_rfl) (by as_aux_lemma => kernel_rfl) (by as_aux_lemma => kernel_rfl) (fun _ _ _ h => h) (Or.inl ⟨by rfl, ?hy53x22⟩) (by assumption) ?rest53x22
            case hy53x22 => intro w hSw; go_simp <;> with_reducible rfl
            simp only [Act.put, List.getElem_toArray, List.getElem_cons_zero, List.getElem_cons_succ, List.setIfInBounds_toArray, List.set_cons_zero, List.set_cons_succ]
            refine wpAnyH_take (i := 23) (v := (.bool false)) rfl (by as_aux_lemma => kernel_rfl) (by as_aux_lemma => kernel_rfl) (by as_aux_lemma => kernel_rfl) (fun _ _ _ h => h) (Or.inl ⟨by rfl, ?hy54x23⟩) (by assumption) ?rest54x23
            case hy54x23 => intro w hSw; go_simp <;> with_reducible rfl
            simp only [Act.put, List.getElem_toArray, List.getElem_cons_zero, List.getElem_cons_succ, List.setIfInBounds_toArray, List.set_cons_zero, List.set_cons_succ]
            refine wpAnyH_take (i := 24) (v := (.bool false)) rfl (by as_aux_lemma => kernel_rfl) (by as_aux_lemma => kernel_rfl) (by as_aux_lemma => kernel_rfl) (fun _ _ _ h => h) (Or.inl ⟨by rfl, ?hy55x24⟩) (by assumption) ?rest55x24
            case hy55x24 => intro w hSw; go_simp <;> with_reducible rfl
            simp only [Act.put, List.getElem_toArray, List.getElem_cons_zero, List.getElem_cons_succ, List.setIfInBounds_toArray, List.set_cons_zero, List.set_cons_succ]
            refine wpAnyH_take (i := 25) (v := ?v56x25) rfl (by as_aux_lemma => kernel_rfl) (by as_aux_lemma => kernel_rfl) (by as_aux_lemma => kernel_rfl) (fun _ _ _ h => h) (Or.inl ⟨by rfl, ?hy56x25⟩) (by assumption) ?rest56x25
            case hy56x25 => intro w hSw; go_simp <;> with_reducible rfl
            simp only [Act.put, List.getElem_toArray, List.getElem_cons_zero, List.getElem_cons_succ, List.setIfInBounds_toArray, List.set_cons_zero, List.set_cons_succ]
            refine wpAnyH_take (i := 26) (v := ?v57x26) rfl (by as_aux_lemma => kernel_rfl) (by as_aux_lemma => kernel_rfl) (by as_aux_lemma => kernel_rfl) (fun _ _ _ h => h) (Or.inl ⟨by rfl, ?hy57x26⟩) (by assumption) ?rest57x26
            case hy57x26 => intro w hSw; go_simp <;> with_reducible rfl
            simp only [Act.put, List.getElem_toArray, List.getElem_cons_zero, List.getElem_cons_succ, List.setIfInBounds_toArray, List.set_cons_zero, List.set_cons_succ]
            refine wpAnyH_take (i := 27) (v := ?v58x27) rfl (by as_aux_lemma => kernel_rfl) (by as_aux_lemma => kernel_rfl) (by as_aux_lemma => kernel_rfl) (fun _ _ _ h => h) (Or.inl ⟨by rfl, ?hy58x27⟩) (by assumption) ?rest58x27
            case hy58x27 => intro w hSw; go_simp <;> with_reducible rfl
            simp only [Act.put, List.getElem_toArray, List.getElem_cons_zero, List.getElem_cons_succ, List.setIfInBounds_toArray, List.set_cons_zero, List.set_cons_succ]
            refine wpAnyH_take (i := 28) (v := ?v59x28) rfl (by as_aux_lemma => kernel_rfl) (by as_aux_lemma => kernel_rfl) (by as_aux_lemma => kernel_rfl) (fun _ _ _ h => h) (Or.inl ⟨by rfl, ?hy59x28⟩) (by assumption) ?rest59x28
            case hy59x28 => intro w hSw; go_simp <;> with_reducible rfl
            simp only [Act.put, List.getElem_toArray, List.getElem_cons_zero, List.getElem_cons_succ, List.setIfInBounds_toArray, List.set_cons_zero, List.set_cons_succ]
            refine wpAnyH_take (i := 29) (v := ?v60x29) rfl (by as_aux_lemma => kernel_rfl) (by as_aux_lemma => kernel_rfl) (by as_aux_lemma => kernel_rfl) (fun _ _ _ h => h) (Or.inl ⟨by rfl, ?hy60x29⟩) (by assumption) ?rest60x29
            case hy60x29 => intro w hSw; go_simp <;> with_reducible rfl
            simp only [Act.put, List.getElem_toArray, List.getElem_cons_zero, List.getElem_cons_succ, List.setIfInBounds_toArray, List.set_cons_zero, List.set_cons_succ]
            refine wpAnyH_take (i := 30) (v := (.agg #[.int .i32 c, .int .i64 d])) rfl (by as_aux_lemma => kernel_rfl) (by as_aux_lemma => kernel_rfl) (by as_aux_lemma => kernel_rfl) (fun _ _ _ h => h) (Or.inl ⟨by rfl, ?hy61x30⟩) (by assumption) ?rest61x30
            case hy61x30 => intro w hSw; obtain ⟨s1, s2⟩ := unhide HCI _ hSw; go_simp <;> with_reducible rfl
            simp only [Act.put, List.getElem_toArray, List.getElem_cons_zero, List.getElem_cons_succ, List.setIfInBounds_toArray, List.set_cons_zero, List.set_cons_succ]
            refine wpAnyH_ready (rs := [31]) (by as_aux_lemma => kernel_rfl) (by simp) ?_
            refine AllReadyH.cons rfl (fun K hK => ?_) AllReadyH.nil
            go_simp
            refine (unhide HHC _ (by assumption)).mono ?_
            rintro e wq ⟨rfl, hb1⟩
            refine hK _ _ hb1 ?_
            clear hK hHeld
            intro hHeld
            refine wpAnyH_take (i := 32) (v := (.bool false)) rfl (by as_aux_lemma => kernel_rfl) (by as_aux_lemma => kernel_rfl) (by as_aux_lemma => kernel_rfl) (fun _ _ _ h => h) (Or.inl ⟨by rfl, ?hy62x32⟩) (by assumption) ?rest62x32
            case hy62x32 => intro w hSw; go_simp <;> with_reducible rfl
            simp only [Act.put, List.getElem_toArray, List.getElem_cons_zero, List.getElem_cons_succ, List.setIfInBounds_toArray, List.set_cons_zero, List.set_cons_succ]
            refine wpAnyH_take (i := 33) (v := (.bool false)) rfl (by as_aux_lemma => kernel_rfl) (by as_aux_lemma => kernel_rfl) (by as_aux_lemma => kernel_rfl) (fun _ _ _ h => h) (Or.inl ⟨by rfl, ?hy63x33⟩) (by assumption) ?rest63x33
            case hy63x33 => intro w hSw; go_simp <;> with_reducible rfl
            simp only [Act.put, List.getElem_toArray, List.getElem_cons_zero, List.getElem_cons_succ, List.setIfInBounds_toArray, List.set_cons_zero, List.set_cons_succ]
            refine wpAnyH_done (by as_aux_lemma => kernel_rfl) ?_ _
            clear hgt hgt0
            go_wp2
            go_roundw
            case rel => exact ⟨i + 1, by omega, by go_num, (unhide HBI).trans (hb1.mono (unhide HBI).size)⟩
            case measure => simp [intOf]; omega
        · obtain rfl : i = xn := by omega
          have hby := unhide HY _ hbi
          obtain ⟨s1, s2⟩ := unhide HBX _ hby
          obtain ⟨rr, hrr⟩ : ∃ r, decide ((a, b) ∈ X) = r := ⟨_, rfl⟩
          have hsx := unhide HSX wr hbi
          have HHK := hide (has_from hsx (Below.refl _ _) a b hrr)
          have hnx := unhide HNX
          clear hsx hby hbi
          cases rr with
          | false =>
            rw [if_neg (of_decide_eq_false hrr)] at hnx
            have HN2 := hide hnx
            clear hrr hnx
            go_wp2_with (go_at_call 24; refine (unhide HHK).mono ?_; rintro e w5 ⟨rfl, hb5⟩; have HB5 := hide hb5; clear hb5)
            go_roundw
            case rel => exact ⟨p + 1, by omega, by rw [unhide HN2], by go_num, (unhide HBI).trans ((unhide HB5).mono (unhide HBI).size)⟩
            case measure => simp [intOf]; omega
          | true =>
            rw [if_pos (of_decide_eq_true hrr)] at hnx
            have hwr : wrap64 (met n l (a, b) p + 1) = met n l (a, b) (p + 1) := by rw [hnx]; unfold wrap64 met; split <;> omega
            have HN2 := hide hwr
            clear hrr hnx hwr
            go_wp2_with (go_at_call 24; refine (unhide HHK).mono ?_; rintro e w5 ⟨rfl, hb5⟩; have HB5 := hide hb5; clear hb5)
            go_roundw
            case rel => exact ⟨p + 1, by omega, by rw [← unhide HN2], by go_num, (unhide HBI).trans ((unhide HB5).mono (unhide HBI).size)⟩
            case measure => simp [intOf]; omega
    · obtain rfl : p = m := by omega
      have hby := unhide HY _ hbr
      obtain ⟨s1, s2⟩ := unhide HBX _ hby
      have hpl := pl_lt n (a, b)
      rw [unhide HM] at hpl
      obtain ⟨q, hq⟩ : ∃ q, pl n (a, b) = q := ⟨_, rfl⟩
      have HPQ := hide (part_from (Below.refl _ _) a b n hq (x := wo))
      have hmet : met n l (a, b) p = if (a, b) ∈ l then 1 else 0 := by
        unfold met
        have : pl n (a, b) < p := hpl
        simp only [this, and_true]
      have HHL : Hid (∀ x, Below wo.heap.size wo x → ∀ r, decide ((a, b) ∈ l) = r → Calls Try.prog 24 #[.slice av ln cv, .agg #[.int .i32 a, .int .i64 b]] x fun e w' => e = .returned (.bool r) ∧ Below wo.heap.size wo w') := fun x hx r hr => has_from (unhide HL x (unhide HY x ((unhide HBR).trans (hx.mono (unhide HBR).size)))) hx a b hr
      have HBQ : Hid (∀ x, Below wo.heap.size wo x → x.cell? ⟨w.heap.size, 0, none⟩ = some (.int .i32 a) ∧ x.cell? ⟨w.heap.size, 1, none⟩ = some (.int .i64 b)) := fun x hx => unhide HBX x (unhide HY x ((unhide HBR).trans (hx.mono (unhide HBR).size)))
      have HEND : Hid (∀ x, Below wo.heap.size wo x → Below w.heap.size w x) := fun x hx => (unhide HW).trans ((unhide HY x ((unhide HBR).trans (hx.mono (unhide HBR).size))).mono (unhide HW).size)
      have hqm : q < p := hq ▸ hpl
      have hq0 : decide ((q : Int) ≥ 0) = true := by simp
      have hqd : decide ((q : Int) < (p : Int)) = true := decide_eq_true (by omega)
      have hp8 : decide ((p : Int) ≤ 8) = true := decide_eq_true (by omega)
      clear hby hpl hq hbr
      by_cases hin : (a, b) ∈ l
      · rw [if_pos hin] at hmet
        have hdi : decide ((a, b) ∈ l) = true := decide_eq_true hin
        rw [hmet]
        clear hmet hin
        go_wp2_with (go_at_call 16; refine (unhide HPQ).mono ?_; rintro e w5 ⟨rfl, hb5⟩; have HB5 := hide hb5; clear hb5)
        refine (live_from (unhide HB5)).mono ?_
        rintro e w6 ⟨rfl, hb6⟩
        obtain ⟨s3, s4⟩ := unhide HBQ _ hb6
        go_wp2_with fail
        refine (unhide HHL _ hb6 _ hdi).mono ?_
        rintro e w7 ⟨rfl, hb7⟩
        go_wp2
        go_ret
        exact ⟨rfl, unhide HEND _ hb7⟩
      · rw [if_neg hin] at hmet
        have hdi : decide ((a, b) ∈ l) = false := decide_eq_false hin
        rw [hmet]
        clear hmet hin
        go_wp2_with (go_at_call 16; refine (unhide HPQ).mono ?_; rintro e w5 ⟨rfl, hb5⟩; have HB5 := hide hb5; clear hb5)
        refine (live_from (unhide HB5)).mono ?_
        rintro e w6 ⟨rfl, hb6⟩
        obtain ⟨s3, s4⟩ := unhide HBQ _ hb6
        go_wp2_with fail
        refine (unhide HHL _ hb6 _ hdi).mono ?_
        rintro e w7 ⟨rfl, hb7⟩
        go_wp2
        go_ret
        exact ⟨rfl, unhide HEND _ hb7⟩
end Go.Proofs.Ytbajggmpklajnaa
