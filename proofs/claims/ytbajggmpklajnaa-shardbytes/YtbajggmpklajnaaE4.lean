/- ShardBytes' walk. -/
import Derived.Test.YtbajggmpklajnaaE3
import Derived.Deep.DeepCutAuto
import Derived.Laws.Rows
namespace Go.Proofs.Ytbajggmpklajnaa
open Go.RowKit
set_option maxRecDepth 100000

def arr (l : List Int) : Array Value := (l.map (Value.int .u8)).toArray
theorem arr_size (l : List Int) : (arr l).size = l.length := by simp [arr]
theorem arr_at (l : List Int) (i : Nat) (h : i < l.length) : (arr l)[i]? = some (.int .u8 (l.getD i 0)) := by simp [arr, List.getD, h]
theorem arr_one (l : List Int) : (arr l).all (·.oneCell') = true := by
  unfold arr
  rw [List.all_toArray, List.all_eq_true]
  intro u hu
  obtain ⟨x, _, rfl⟩ := List.mem_map.1 hu
  rfl
theorem bl_len (k : Ky) : (bl k).length = 12 := rfl
theorem bytes_bl (k : Ky) (h : OkK k) (w : World) : Calls Try.prog 12 #[.agg #[.int .i32 k.1, .int .i64 k.2]] w fun e w' => e = .returned (.agg (arr (bl k))) ∧ Grew w w' := by
  have := bytes_any k.1 k.2 w
  rw [bytesV_bl k h] at this
  exact this
theorem from_bl (k : Ky) (h : OkK k) (w : World) : Calls Try.prog 31 #[.agg (arr (bl k))] w fun e w' => e = .returned (.agg #[.int .i32 k.1, .int .i64 k.2]) ∧ Grew w w' := by
  obtain ⟨a, b⟩ := k
  have h1 := h.1
  have h2 := h.2
  simp only at h1 h2
  obtain ⟨T, hT⟩ : ∃ T, T = a + 2147483648 := ⟨_, rfl⟩
  obtain ⟨R, hR⟩ : ∃ T, T = b + 9223372036854775808 := ⟨_, rfl⟩
  have hb := bl_byte (a, b)
  simp only [bl, ← hT, ← hR, List.mem_cons, List.not_mem_nil, or_false, forall_eq_or_imp, forall_eq] at hb
  obtain ⟨q0, q1, q2, q3, q4, q5, q6, q7, q8, q9, q10, q11⟩ := hb
  have e1 := fromT_num _ _ _ _ q0 q1 q2 q3
  have e2 := fromR_num _ _ _ _ _ _ _ _ q4 q5 q6 q7 q8 q9 q10 q11
  have e1' : fromT (T / 256 / 256 / 256 % 256) (T / 256 / 256 % 256) (T / 256 % 256) (T % 256) = a := by rw [e1]; omega
  have e2' : fromR (R / 256 / 256 / 256 / 256 / 256 / 256 / 256 % 256) (R / 256 / 256 / 256 / 256 / 256 / 256 % 256) (R / 256 / 256 / 256 / 256 / 256 % 256) (R / 256 / 256 / 256 / 256 % 256) (R / 256 / 256 / 256 % 256) (R / 256 / 256 % 256) (R / 256 % 256) (R % 256) = b := by rw [e2]; omega
  have := from_any (T / 256 / 256 / 256 % 256) (T / 256 / 256 % 256) (T / 256 % 256) (T % 256) (R / 256 / 256 / 256 / 256 / 256 / 256 / 256 % 256) (R / 256 / 256 / 256 / 256 / 256 / 256 % 256) (R / 256 / 256 / 256 / 256 / 256 % 256) (R / 256 / 256 / 256 / 256 % 256) (R / 256 / 256 / 256 % 256) (R / 256 / 256 % 256) (R / 256 % 256) (R % 256) w
  rw [e1', e2'] at this
  have e3 : arr (bl (a, b)) = #[.int .u8 (T / 256 / 256 / 256 % 256), .int .u8 (T / 256 / 256 % 256), .int .u8 (T / 256 % 256), .int .u8 (T % 256), .int .u8 (R / 256 / 256 / 256 / 256 / 256 / 256 / 256 % 256), .int .u8 (R / 256 / 256 / 256 / 256 / 256 / 256 % 256), .int .u8 (R / 256 / 256 / 256 / 256 / 256 % 256), .int .u8 (R / 256 / 256 / 256 / 256 % 256), .int .u8 (R / 256 / 256 / 256 % 256), .int .u8 (R / 256 / 256 % 256), .int .u8 (R / 256 % 256), .int .u8 (R % 256)] := by rw [hT, hR]; rfl
  rw [e3]
  exact this
/-- Any twelve bytes are some key's. -/
theorem back_bl (c : List Int) (hl : c.length = 12) (hb : ∀ x ∈ c, B8 x) : ∃ k : Ky, OkK k ∧ bl k = c := by
  match c, hl with
  | [c0, c1, c2, c3, c4, c5, c6, c7, c8, c9, c10, c11], _ =>
    simp only [List.mem_cons, List.not_mem_nil, or_false, forall_eq_or_imp, forall_eq, B8] at hb
    obtain ⟨q0, q1, q2, q3, q4, q5, q6, q7, q8, q9, q10, q11⟩ := hb
    refine ⟨(((c0 * 256 + c1) * 256 + c2) * 256 + c3 - 2147483648, ((((((c4 * 256 + c5) * 256 + c6) * 256 + c7) * 256 + c8) * 256 + c9) * 256 + c10) * 256 + c11 - 9223372036854775808), ⟨?_, ?_⟩, ?_⟩
    · simp only; omega
    · simp only; omega
    · simp only [bl, List.cons.injEq, and_true]
      refine ⟨?_, ?_, ?_, ?_, ?_, ?_, ?_, ?_, ?_, ?_, ?_, ?_⟩ <;> omega
theorem store_upon {P : Program} {o : Oper} {a : Act} {w : World} {K : Act → World → Prop} {Q : Exit → Act → World → Prop} {ty : TypeId} {x y : Operand} (ho : o.op = .store ty x y)
    {g : Nat} {old cells : Array Value} (hx : a.eval x = .pointer (some ⟨g, 0, none⟩)) (hy : a.eval y = .agg cells) {t : TypeId} (hg : w.heap[g]? = some (.cells old t (0, 0)))
    (hi : (P.info? ty).map (·.size) = some cells.size) (hs : old.size = cells.size) (h1 : cells.all (·.oneCell') = true) (h : K (a.put o.dst undef) (w.setRow g cells)) : Oper.wp P o a w K Q := by
  unfold Oper.wp execOp
  simp only [ho, hx, hy, Instr.storeAt, Instr.sureAddr, Sem.run_bind, Sem.run_pure, Result.andThen_ok, run_storeVar_row w g t ty old cells hg hi hs h1]
  exact h
theorem run_loadA {ρ : Operand → Value} {o : Oper} {s : Operand} {w : World} {g T n e : Nat} {cs : Array Value} {v : Value} (ho : o.op = .load T s) (hs : ρ s = .pointer (some ⟨g, 0, none⟩)) (hg : w.heap[g]? = some (.cells cs T))
    (hu : Try.prog.underlying T = some (.array n e)) (hi : (Try.prog.info? T).map (·.size) = some cs.size) (hv : Value.agg cs = v) :
    Sem.run Try.prog (execOp ρ o) w = .ok (.value v) w := by
  subst hv
  have h := run_loadVar_row (P := Try.prog) w g T T cs (0, 0) _ hg hu rfl hi
  unfold execOp
  rw [ho]
  simp only [hs, Instr.loadAt]
  simp [Instr.sureAddr, h]
theorem Try.isize26 : (Try.prog.info? 26).map (·.size) = some 12 := by kernel_rfl
/-- Where the first region leaves: two arrays with the keys' bytes. -/
def Two (y : World) (A B : Array Value) (p q : Value) (x : World) : Prop := ∃ g h, p = .pointer (some ⟨g, 0, none⟩) ∧ q = .pointer (some ⟨h, 0, none⟩) ∧ x.heap[g]? = some (.cells A 26) ∧ x.heap[h]? = some (.cells B 26) ∧ Below y.heap.size y x
theorem two_done {y x : World} {A B A0 B0 : Array Value} {g h : Nat} (hb : Below y.heap.size y x) (hg : x.heap[g]? = some (.cells A0 26)) (hh : x.heap[h]? = some (.cells B0 26)) (hn : g ≠ h) (l1 : y.heap.size ≤ g) (l2 : y.heap.size ≤ h) :
    Two y A B (.pointer (some ⟨g, 0, none⟩)) (.pointer (some ⟨h, 0, none⟩)) ((x.setRow g A).setRow h B) := by
  refine ⟨g, h, rfl, rfl, ?_, ?_, ?_⟩
  · rw [setRow_other _ _ _ _ hn]; exact setRow_heap x g _ _ _ _ hg
  · exact setRow_heap _ h _ _ _ _ ((setRow_other _ _ _ _ (Ne.symm hn)).trans hh)
  · exact ⟨hb.os, hb.tape, hb.output, by simpa using hb.size, fun k hk => by rw [setRow_other _ _ _ _ (by omega), setRow_other _ _ _ _ (by omega)]; exact hb.block k hk⟩
theorem two_mid {x : World} {A B0 : Array Value} {g h : Nat} (hh : x.heap[h]? = some (.cells B0 26)) (hn : g ≠ h) : (x.setRow g A).heap[h]? = some (.cells B0 26) := (setRow_other _ _ _ _ (Ne.symm hn)).trans hh
theorem keep_block {x z : World} {g : Nat} {o : Obj} (h : x.heap[g]? = some o) (hb : Below x.heap.size x z) : z.heap[g]? = some o := (hb.block g (Array.getElem?_eq_some_iff.1 h).1).trans h

theorem lex_split : ∀ a b : List Int, a.length = b.length → (a = b ∧ lex a b = 0) ∨ ∃ m, m < a.length ∧ (∀ u, u < m → a.getD u 0 = b.getD u 0) ∧ a.getD m 0 ≠ b.getD m 0 ∧ lex a b = if a.getD m 0 < b.getD m 0 then -1 else 1
  | [], [], _ => .inl ⟨rfl, rfl⟩
  | [], _ :: _, h => by simp at h
  | _ :: _, [], h => by simp at h
  | x :: r, y :: s, h => by
    by_cases e : x = y
    · subst e
      rcases lex_split r s (by simpa using h) with ⟨h1, h2⟩ | ⟨m, h1, h2, h3, h4⟩
      · exact .inl ⟨by rw [h1], by unfold lex; rw [if_pos rfl]; exact h2⟩
      · refine .inr ⟨m + 1, by simpa using h1, fun u hu => ?_, by simpa using h3, by unfold lex; rw [if_pos rfl, h4]; simp⟩
        cases u with
        | zero => simp
        | succ u => simpa using h2 u (by omega)
    · exact .inr ⟨0, by simp, fun u hu => absurd hu (by omega), by simpa using e, by unfold lex; rw [if_neg e]; simp⟩
theorem live_on {y x : World} (hb : Below y.heap.size y x) : Calls Try.prog 9 #[] x fun e w' => e = .returned (.bool true) ∧ Below y.heap.size y w' := live_from hb
theorem grew_on {y x : World} {f : Nat} {args : Array Value} {r : Ending} (hb : Below y.heap.size y x) (h : Calls Try.prog f args x fun e w' => e = r ∧ Grew x w') : Calls Try.prog f args x fun e w' => e = r ∧ Below y.heap.size y w' := grew_from hb h
set_option maxHeartbeats 12800000 in
theorem bytes_walk (a b : Ky) (c : List Int) (ha : OkK a) (hb : OkK b) (hc : c.length = 12) (hcb : ∀ x ∈ c, B8 x) (w : World) :
    Calls Try.prog 6 #[.agg #[.int .i32 a.1, .int .i64 a.2], .agg #[.int .i32 b.1, .int .i64 b.2], .agg (arr c)] w fun e w' => e = .returned (.bool true) ∧ Below w.heap.size w w' := by
  obtain ⟨k, hk, hkc⟩ := back_bl c hc hcb
  obtain ⟨a0, a1⟩ := a
  obtain ⟨b0, b1⟩ := b
  obtain ⟨k0, k1⟩ := k
  obtain ⟨A, hA⟩ : ∃ A, arr (bl (a0, a1)) = A := ⟨_, rfl⟩
  obtain ⟨B, hB⟩ : ∃ A, arr (bl (b0, b1)) = A := ⟨_, rfl⟩
  obtain ⟨C, hC⟩ : ∃ A, arr c = A := ⟨_, rfl⟩
  have sA : A.size = 12 := by rw [← hA, arr_size]; rfl
  have sB : B.size = 12 := by rw [← hB, arr_size]; rfl
  have sC : C.size = 12 := by rw [← hC, arr_size]; exact hc
  have oA : A.all (·.oneCell') = true := hA ▸ arr_one _
  have oB : B.all (·.oneCell') = true := hB ▸ arr_one _
  have oC : C.all (·.oneCell') = true := hC ▸ arr_one _
  rw [hC]
  obtain ⟨y, hy⟩ : ∃ y, ((w.alloc (.cells #[.int .i32 a0, .int .i64 a1] 23)).alloc (.cells #[.int .i32 b0, .int .i64 b1] 23)).alloc (.cells C 26) = y := ⟨_, rfl⟩
  have hwy : Below w.heap.size w y := by rw [← hy]; exact (((Below.refl _ _).alloc (Nat.le_refl _) _).alloc (by simp) _).alloc (by simp; omega) _
  have xa : y.heap[w.heap.size]? = some (.cells #[.int .i32 a0, .int .i64 a1] 23) := by
    rw [← hy, Below.heap_alloc _ _ _ (by simp; omega), Below.heap_alloc _ _ _ (by simp)]; exact heap_alloc_new w _
  have xb : y.heap[w.heap.size + 1]? = some (.cells #[.int .i32 b0, .int .i64 b1] 23) := by
    rw [← hy, Below.heap_alloc _ _ _ (by simp)]
    have := heap_alloc_new (w.alloc (.cells #[.int .i32 a0, .int .i64 a1] 23)) (.cells #[.int .i32 b0, .int .i64 b1] 23)
    simpa using this
  have xc : y.heap[w.heap.size + 1 + 1]? = some (.cells C 26) := by
    rw [← hy]
    have := heap_alloc_new ((w.alloc (.cells #[.int .i32 a0, .int .i64 a1] 23)).alloc (.cells #[.int .i32 b0, .int .i64 b1] 23)) (.cells C 26)
    simpa using this
  have HA : Hid (∀ x, Below y.heap.size y x → x.cell? ⟨w.heap.size, 0, none⟩ = some (.int .i32 a0) ∧ x.cell? ⟨w.heap.size, 1, none⟩ = some (.int .i64 a1)) := fun x hb => box_cells xa hb
  have HB : Hid (∀ x, Below y.heap.size y x → x.cell? ⟨w.heap.size + 1, 0, none⟩ = some (.int .i32 b0) ∧ x.cell? ⟨w.heap.size + 1, 1, none⟩ = some (.int .i64 b1)) := fun x hb => box_cells xb hb
  have HC : Hid (∀ x, Below y.heap.size y x → x.heap[w.heap.size + 1 + 1]? = some (.cells C 26)) := fun x hb => keep_block xc hb
  have HW := hide hwy
  have HBA : Hid (∀ x : World, Calls Try.prog 12 #[.agg #[.int .i32 a0, .int .i64 a1]] x fun e w' => e = .returned (.agg A) ∧ Grew x w') := fun x => hA ▸ bytes_bl (a0, a1) ha x
  have HBB : Hid (∀ x : World, Calls Try.prog 12 #[.agg #[.int .i32 b0, .int .i64 b1]] x fun e w' => e = .returned (.agg B) ∧ Grew x w') := fun x => hB ▸ bytes_bl (b0, b1) hb x
  have HBK : Hid (∀ x : World, Calls Try.prog 12 #[.agg #[.int .i32 k0, .int .i64 k1]] x fun e w' => e = .returned (.agg C) ∧ Grew x w') := fun x => by rw [← hC, ← hkc]; exact bytes_bl (k0, k1) hk x
  have HFA : Hid (∀ x : World, Calls Try.prog 31 #[.agg A] x fun e w' => e = .returned (.agg #[.int .i32 a0, .int .i64 a1]) ∧ Grew x w') := fun x => hA ▸ from_bl (a0, a1) ha x
  have HFC : Hid (∀ x : World, Calls Try.prog 31 #[.agg C] x fun e w' => e = .returned (.agg #[.int .i32 k0, .int .i64 k1]) ∧ Grew x w') := fun x => by rw [← hC, ← hkc]; exact from_bl (k0, k1) hk x
  obtain ⟨r, hr⟩ : ∃ r, cmpK (a0, a1) (b0, b1) = r := ⟨_, rfl⟩
  have HLX : Hid (lex (bl (a0, a1)) (bl (b0, b1)) = r) := (lex_bl _ _ ha hb).trans hr
  have HCM : Hid (∀ x : World, Calls Try.prog 10 #[.agg #[.int .i32 a0, .int .i64 a1], .agg #[.int .i32 b0, .int .i64 b1]] x fun e w' => e = .returned (.int .i64 r) ∧ Grew x w') := fun x => hr ▸ compare_any a0 a1 b0 b1 x
  have HAA : Hid (∀ i, i < 12 → A[i]? = some (.int .u8 ((bl (a0, a1)).getD i 0))) := fun i hi => hA ▸ arr_at _ i hi
  have HAB : Hid (∀ i, i < 12 → B[i]? = some (.int .u8 ((bl (b0, b1)).getD i 0))) := fun i hi => hB ▸ arr_at _ i hi
  have HEC : Hid (∀ x, (binOp .eql 26 (.agg C) (.agg C)).run Try.prog x = .ok (.bool true) x) := fun x => eql_arr12 (fun i hi => ⟨_, hC ▸ arr_at c i (by omega)⟩) x
  clear hwy xa xb xc ha hb hc hcb hk hkc hA hB hC hr
  go_enter Try.func6, Try.ntmps6
  go_wp2_with (rw [hy])
  go_cut [7, 8] (fun p q wc => Two y A B p q wc)
  case first =>
    refine wp_region_held_drew (S := fun x => Below y.heap.size y x) (by kernel_rfl) ((Below.refl _ _).drew) (fun hHeld => ?_)
    refine wpAnyH_take (i := 0) (v := (.agg #[.int .i32 a0, .int .i64 a1])) rfl (by kernel_rfl) (by kernel_rfl) (by kernel_rfl) (fun _ _ _ h => h) (Or.inl ⟨by rfl, ?hy1x0⟩) (by assumption) ?rest1x0
    case hy1x0 => intro w hSw; obtain ⟨s1, s2⟩ := unhide HA _ hSw; go_simp <;> with_reducible rfl
    simp only [Act.put, List.getElem_toArray, List.getElem_cons_zero, List.setIfInBounds_toArray, List.set_cons_zero, List.set_cons_succ]
    refine wpAnyH_take (i := 2) (v := (.agg #[.int .i32 b0, .int .i64 b1])) rfl (by kernel_rfl) (by kernel_rfl) (by kernel_rfl) (fun _ _ _ h => h) (Or.inl ⟨by rfl, ?hy2x2⟩) (by assumption) ?rest2x2
    case hy2x2 => intro w hSw; obtain ⟨s1, s2⟩ := unhide HB _ hSw; go_simp <;> with_reducible rfl
    simp only [Act.put, List.getElem_toArray, List.getElem_cons_zero, List.getElem_cons_succ, List.setIfInBounds_toArray, List.set_cons_zero, List.set_cons_succ]
    refine wpAnyH_ready (rs := [1, 4, 5]) (by kernel_rfl) (by simp) ?_
    refine AllReadyH.cons rfl (fun K hK => ?_) (AllReadyH.cons rfl (fun K hK => ?_) (AllReadyH.cons rfl (fun K hK => ?_) AllReadyH.nil))
    · skip
      go_simp
      refine (unhide HBA _).mono ?_
      rintro e x1 ⟨rfl, hg⟩
      have hs1 := hg.below.size
      refine hK _ _ (hHeld.trans (hg.below.mono hHeld.size)) ?_
      clear hK hHeld hg
      intro hHeld
      refine wpAnyH_ready (rs := [3, 4, 5]) (by kernel_rfl) (by simp) ?_
      refine AllReadyH.cons rfl (fun K hK => ?_) (AllReadyH.cons rfl (fun K hK => ?_) (AllReadyH.cons rfl (fun K hK => ?_) AllReadyH.nil))
      · skip
        go_simp
        refine (unhide HBB _).mono ?_
        rintro e x13 ⟨rfl, hg⟩
        have hs13 := hg.below.size
        refine hK _ _ (hHeld.trans (hg.below.mono hHeld.size)) ?_
        clear hK hHeld hg
        intro hHeld
        refine wpAnyH_ready (rs := [4, 5]) (by kernel_rfl) (by simp) ?_
        refine AllReadyH.cons rfl (fun K hK => ?_) (AllReadyH.cons rfl (fun K hK => ?_) AllReadyH.nil)
        · skip
          go_simp
          have hz134 : (x13.alloc (.cells Z12 26)).heap.size = x13.heap.size + 1 := by simp
          have hy134 := hHeld.size
          have f4x134 : (x13.alloc (.cells Z12 26)).heap[x13.heap.size]? = some (.cells Z12 26) := heap_alloc_new x13 _
          obtain ⟨x134, hx134⟩ : ∃ x, (x13.alloc (.cells Z12 26)) = x := ⟨_, rfl⟩
          rw [hx134] at hz134 f4x134
          have HZ134 := hide hz134
          clear hz134
          have hw134 : Below y.heap.size y x134 := hx134 ▸ hHeld.alloc hHeld.size _
          try rw [hx134]
          refine hK _ _ hw134 ?_
          clear hK hHeld
          intro hHeld
          refine wpAnyH_ready (rs := [5]) (by kernel_rfl) (by simp) ?_
          refine AllReadyH.cons rfl (fun K hK => ?_) AllReadyH.nil
          · skip
            go_simp
            have hz1345 : (x134.alloc (.cells Z12 26)).heap.size = x134.heap.size + 1 := by simp
            have hy1345 := hHeld.size
            have f5x1345 : (x134.alloc (.cells Z12 26)).heap[x134.heap.size]? = some (.cells Z12 26) := heap_alloc_new x134 _
            have f4x1345 := keep_block f4x134 (below_box (w := x134) (.cells Z12 26))
            obtain ⟨x1345, hx1345⟩ : ∃ x, (x134.alloc (.cells Z12 26)) = x := ⟨_, rfl⟩
            rw [hx1345] at hz1345 f5x1345 f4x1345
            have HZ1345 := hide hz1345
            clear hz1345
            have hw1345 : Below y.heap.size y x1345 := hx1345 ▸ hHeld.alloc hHeld.size _
            try rw [hx1345]
            refine hK _ _ hw1345 ?_
            clear hK hHeld
            intro hHeld
            refine wpAnyH_ready (rs := [6]) (by kernel_rfl) (by simp) ?_
            refine AllReadyH.cons rfl (fun K hK => ?_) AllReadyH.nil
            refine store_upon (g := x13.heap.size) rfl rfl rfl f4x1345 (by rw [sA]; exact Try.isize26) (by rw [sA]; rfl) oA ?_
            simp only [Act.put, List.getElem_toArray, List.getElem_cons_zero, List.getElem_cons_succ]
            have hz134 := unhide HZ134
            have hz1345 := unhide HZ1345
            have hF := two_done (A := A) (B := B) hHeld f4x1345 f5x1345 (by omega) (by omega) (by omega)
            have HF := hide hF
            have HNE : Hid (x13.heap.size ≠ x134.heap.size) := (by omega : x13.heap.size ≠ x134.heap.size)
            have HLE : Hid (y.heap.size ≤ x13.heap.size) := (by omega : y.heap.size ≤ x13.heap.size)
            clear hz134 hz1345
            refine hK _ _ ⟨hHeld.os, hHeld.tape, hHeld.output, by simpa using hHeld.size, fun k hk => (setRow_other _ _ _ _ (by have := unhide HLE; omega)).trans (hHeld.block k hk)⟩ ?_
            clear hK
            intro hHeld2
            refine wpAnyH_ready (rs := [7]) (by kernel_rfl) (by simp) ?_
            refine AllReadyH.cons rfl (fun K hK => ?_) AllReadyH.nil
            refine store_upon (g := x134.heap.size) rfl rfl rfl (two_mid f5x1345 (unhide HNE)) (by rw [sB]; exact Try.isize26) (by rw [sB]; rfl) oB ?_
            simp only [Act.put, List.getElem_toArray, List.getElem_cons_zero, List.getElem_cons_succ]
            refine hK _ _ hF.choose_spec.choose_spec.2.2.2.2 ?_
            clear hK hHeld hHeld2
            intro hHeld
            refine wpAnyH_done (by kernel_rfl) ?_ _
            go_wp2_with fail
            go_meet
            case rel => exact unhide HF
        · skip
          go_simp
          have hz135 : (x13.alloc (.cells Z12 26)).heap.size = x13.heap.size + 1 := by simp
          have hy135 := hHeld.size
          have f5x135 : (x13.alloc (.cells Z12 26)).heap[x13.heap.size]? = some (.cells Z12 26) := heap_alloc_new x13 _
          obtain ⟨x135, hx135⟩ : ∃ x, (x13.alloc (.cells Z12 26)) = x := ⟨_, rfl⟩
          rw [hx135] at hz135 f5x135
          have HZ135 := hide hz135
          clear hz135
          have hw135 : Below y.heap.size y x135 := hx135 ▸ hHeld.alloc hHeld.size _
          try rw [hx135]
          refine hK _ _ hw135 ?_
          clear hK hHeld
          intro hHeld
          refine wpAnyH_ready (rs := [4]) (by kernel_rfl) (by simp) ?_
          refine AllReadyH.cons rfl (fun K hK => ?_) AllReadyH.nil
          · skip
            go_simp
            have hz1354 : (x135.alloc (.cells Z12 26)).heap.size = x135.heap.size + 1 := by simp
            have hy1354 := hHeld.size
            have f4x1354 : (x135.alloc (.cells Z12 26)).heap[x135.heap.size]? = some (.cells Z12 26) := heap_alloc_new x135 _
            have f5x1354 := keep_block f5x135 (below_box (w := x135) (.cells Z12 26))
            obtain ⟨x1354, hx1354⟩ : ∃ x, (x135.alloc (.cells Z12 26)) = x := ⟨_, rfl⟩
            rw [hx1354] at hz1354 f4x1354 f5x1354
            have HZ1354 := hide hz1354
            clear hz1354
            have hw1354 : Below y.heap.size y x1354 := hx1354 ▸ hHeld.alloc hHeld.size _
            try rw [hx1354]
            refine hK _ _ hw1354 ?_
            clear hK hHeld
            intro hHeld
            refine wpAnyH_ready (rs := [6]) (by kernel_rfl) (by simp) ?_
            refine AllReadyH.cons rfl (fun K hK => ?_) AllReadyH.nil
            refine store_upon (g := x135.heap.size) rfl rfl rfl f4x1354 (by rw [sA]; exact Try.isize26) (by rw [sA]; rfl) oA ?_
            simp only [Act.put, List.getElem_toArray, List.getElem_cons_zero, List.getElem_cons_succ]
            have hz135 := unhide HZ135
            have hz1354 := unhide HZ1354
            have hF := two_done (A := A) (B := B) hHeld f4x1354 f5x1354 (by omega) (by omega) (by omega)
            have HF := hide hF
            have HNE : Hid (x135.heap.size ≠ x13.heap.size) := (by omega : x135.heap.size ≠ x13.heap.size)
            have HLE : Hid (y.heap.size ≤ x135.heap.size) := (by omega : y.heap.size ≤ x135.heap.size)
            clear hz135 hz1354
            refine hK _ _ ⟨hHeld.os, hHeld.tape, hHeld.output, by simpa using hHeld.size, fun k hk => (setRow_other _ _ _ _ (by have := unhide HLE; omega)).trans (hHeld.block k hk)⟩ ?_
            clear hK
            intro hHeld2
            refine wpAnyH_ready (rs := [7]) (by kernel_rfl) (by simp) ?_
            refine AllReadyH.cons rfl (fun K hK => ?_) AllReadyH.nil
            refine store_upon (g := x13.heap.size) rfl rfl rfl (two_mid f5x1354 (unhide HNE)) (by rw [sB]; exact Try.isize26) (by rw [sB]; rfl) oB ?_
            simp only [Act.put, List.getElem_toArray, List.getElem_cons_zero, List.getElem_cons_succ]
            refine hK _ _ hF.choose_spec.choose_spec.2.2.2.2 ?_
            clear hK hHeld hHeld2
            intro hHeld
            refine wpAnyH_done (by kernel_rfl) ?_ _
            go_wp2_with fail
            go_meet
            case rel => exact unhide HF
      · skip
        go_simp
        have hz14 : (x1.alloc (.cells Z12 26)).heap.size = x1.heap.size + 1 := by simp
        have hy14 := hHeld.size
        have f4x14 : (x1.alloc (.cells Z12 26)).heap[x1.heap.size]? = some (.cells Z12 26) := heap_alloc_new x1 _
        obtain ⟨x14, hx14⟩ : ∃ x, (x1.alloc (.cells Z12 26)) = x := ⟨_, rfl⟩
        rw [hx14] at hz14 f4x14
        have HZ14 := hide hz14
        clear hz14
        have hw14 : Below y.heap.size y x14 := hx14 ▸ hHeld.alloc hHeld.size _
        try rw [hx14]
        refine hK _ _ hw14 ?_
        clear hK hHeld
        intro hHeld
        refine wpAnyH_ready (rs := [3, 5]) (by kernel_rfl) (by simp) ?_
        refine AllReadyH.cons rfl (fun K hK => ?_) (AllReadyH.cons rfl (fun K hK => ?_) AllReadyH.nil)
        · skip
          go_simp
          refine (unhide HBB _).mono ?_
          rintro e x143 ⟨rfl, hg⟩
          have hs143 := hg.below.size
          have f4x143 := keep_block f4x14 hg.below
          refine hK _ _ (hHeld.trans (hg.below.mono hHeld.size)) ?_
          clear hK hHeld hg
          intro hHeld
          refine wpAnyH_ready (rs := [5]) (by kernel_rfl) (by simp) ?_
          refine AllReadyH.cons rfl (fun K hK => ?_) AllReadyH.nil
          · skip
            go_simp
            have hz1435 : (x143.alloc (.cells Z12 26)).heap.size = x143.heap.size + 1 := by simp
            have hy1435 := hHeld.size
            have f5x1435 : (x143.alloc (.cells Z12 26)).heap[x143.heap.size]? = some (.cells Z12 26) := heap_alloc_new x143 _
            have f4x1435 := keep_block f4x143 (below_box (w := x143) (.cells Z12 26))
            obtain ⟨x1435, hx1435⟩ : ∃ x, (x143.alloc (.cells Z12 26)) = x := ⟨_, rfl⟩
            rw [hx1435] at hz1435 f5x1435 f4x1435
            have HZ1435 := hide hz1435
            clear hz1435
            have hw1435 : Below y.heap.size y x1435 := hx1435 ▸ hHeld.alloc hHeld.size _
            try rw [hx1435]
            refine hK _ _ hw1435 ?_
            clear hK hHeld
            intro hHeld
            refine wpAnyH_ready (rs := [6]) (by kernel_rfl) (by simp) ?_
            refine AllReadyH.cons rfl (fun K hK => ?_) AllReadyH.nil
            refine store_upon (g := x1.heap.size) rfl rfl rfl f4x1435 (by rw [sA]; exact Try.isize26) (by rw [sA]; rfl) oA ?_
            simp only [Act.put, List.getElem_toArray, List.getElem_cons_zero, List.getElem_cons_succ]
            have hz14 := unhide HZ14
            have hz1435 := unhide HZ1435
            have hF := two_done (A := A) (B := B) hHeld f4x1435 f5x1435 (by omega) (by omega) (by omega)
            have HF := hide hF
            have HNE : Hid (x1.heap.size ≠ x143.heap.size) := (by omega : x1.heap.size ≠ x143.heap.size)
            have HLE : Hid (y.heap.size ≤ x1.heap.size) := (by omega : y.heap.size ≤ x1.heap.size)
            clear hz14 hz1435
            refine hK _ _ ⟨hHeld.os, hHeld.tape, hHeld.output, by simpa using hHeld.size, fun k hk => (setRow_other _ _ _ _ (by have := unhide HLE; omega)).trans (hHeld.block k hk)⟩ ?_
            clear hK
            intro hHeld2
            refine wpAnyH_ready (rs := [7]) (by kernel_rfl) (by simp) ?_
            refine AllReadyH.cons rfl (fun K hK => ?_) AllReadyH.nil
            refine store_upon (g := x143.heap.size) rfl rfl rfl (two_mid f5x1435 (unhide HNE)) (by rw [sB]; exact Try.isize26) (by rw [sB]; rfl) oB ?_
            simp only [Act.put, List.getElem_toArray, List.getElem_cons_zero, List.getElem_cons_succ]
            refine hK _ _ hF.choose_spec.choose_spec.2.2.2.2 ?_
            clear hK hHeld hHeld2
            intro hHeld
            refine wpAnyH_done (by kernel_rfl) ?_ _
            go_wp2_with fail
            go_meet
            case rel => exact unhide HF
        · skip
          go_simp
          have hz145 : (x14.alloc (.cells Z12 26)).heap.size = x14.heap.size + 1 := by simp
          have hy145 := hHeld.size
          have f5x145 : (x14.alloc (.cells Z12 26)).heap[x14.heap.size]? = some (.cells Z12 26) := heap_alloc_new x14 _
          have f4x145 := keep_block f4x14 (below_box (w := x14) (.cells Z12 26))
          obtain ⟨x145, hx145⟩ : ∃ x, (x14.alloc (.cells Z12 26)) = x := ⟨_, rfl⟩
          rw [hx145] at hz145 f5x145 f4x145
          have HZ145 := hide hz145
          clear hz145
          have hw145 : Below y.heap.size y x145 := hx145 ▸ hHeld.alloc hHeld.size _
          try rw [hx145]
          refine hK _ _ hw145 ?_
          clear hK hHeld
          intro hHeld
          refine wpAnyH_ready (rs := [3]) (by kernel_rfl) (by simp) ?_
          refine AllReadyH.cons rfl (fun K hK => ?_) AllReadyH.nil
          · skip
            go_simp
            refine (unhide HBB _).mono ?_
            rintro e x1453 ⟨rfl, hg⟩
            have hs1453 := hg.below.size
            have f5x1453 := keep_block f5x145 hg.below
            have f4x1453 := keep_block f4x145 hg.below
            refine hK _ _ (hHeld.trans (hg.below.mono hHeld.size)) ?_
            clear hK hHeld hg
            intro hHeld
            refine wpAnyH_ready (rs := [6]) (by kernel_rfl) (by simp) ?_
            refine AllReadyH.cons rfl (fun K hK => ?_) AllReadyH.nil
            refine store_upon (g := x1.heap.size) rfl rfl rfl f4x1453 (by rw [sA]; exact Try.isize26) (by rw [sA]; rfl) oA ?_
            simp only [Act.put, List.getElem_toArray, List.getElem_cons_zero, List.getElem_cons_succ]
            have hz14 := unhide HZ14
            have hz145 := unhide HZ145
            have hF := two_done (A := A) (B := B) hHeld f4x1453 f5x1453 (by omega) (by omega) (by omega)
            have HF := hide hF
            have HNE : Hid (x1.heap.size ≠ x14.heap.size) := (by omega : x1.heap.size ≠ x14.heap.size)
            have HLE : Hid (y.heap.size ≤ x1.heap.size) := (by omega : y.heap.size ≤ x1.heap.size)
            clear hz14 hz145
            refine hK _ _ ⟨hHeld.os, hHeld.tape, hHeld.output, by simpa using hHeld.size, fun k hk => (setRow_other _ _ _ _ (by have := unhide HLE; omega)).trans (hHeld.block k hk)⟩ ?_
            clear hK
            intro hHeld2
            refine wpAnyH_ready (rs := [7]) (by kernel_rfl) (by simp) ?_
            refine AllReadyH.cons rfl (fun K hK => ?_) AllReadyH.nil
            refine store_upon (g := x14.heap.size) rfl rfl rfl (two_mid f5x1453 (unhide HNE)) (by rw [sB]; exact Try.isize26) (by rw [sB]; rfl) oB ?_
            simp only [Act.put, List.getElem_toArray, List.getElem_cons_zero, List.getElem_cons_succ]
            refine hK _ _ hF.choose_spec.choose_spec.2.2.2.2 ?_
            clear hK hHeld hHeld2
            intro hHeld
            refine wpAnyH_done (by kernel_rfl) ?_ _
            go_wp2_with fail
            go_meet
            case rel => exact unhide HF
      · skip
        go_simp
        have hz15 : (x1.alloc (.cells Z12 26)).heap.size = x1.heap.size + 1 := by simp
        have hy15 := hHeld.size
        have f5x15 : (x1.alloc (.cells Z12 26)).heap[x1.heap.size]? = some (.cells Z12 26) := heap_alloc_new x1 _
        obtain ⟨x15, hx15⟩ : ∃ x, (x1.alloc (.cells Z12 26)) = x := ⟨_, rfl⟩
        rw [hx15] at hz15 f5x15
        have HZ15 := hide hz15
        clear hz15
        have hw15 : Below y.heap.size y x15 := hx15 ▸ hHeld.alloc hHeld.size _
        try rw [hx15]
        refine hK _ _ hw15 ?_
        clear hK hHeld
        intro hHeld
        refine wpAnyH_ready (rs := [3, 4]) (by kernel_rfl) (by simp) ?_
        refine AllReadyH.cons rfl (fun K hK => ?_) (AllReadyH.cons rfl (fun K hK => ?_) AllReadyH.nil)
        · skip
          go_simp
          refine (unhide HBB _).mono ?_
          rintro e x153 ⟨rfl, hg⟩
          have hs153 := hg.below.size
          have f5x153 := keep_block f5x15 hg.below
          refine hK _ _ (hHeld.trans (hg.below.mono hHeld.size)) ?_
          clear hK hHeld hg
          intro hHeld
          refine wpAnyH_ready (rs := [4]) (by kernel_rfl) (by simp) ?_
          refine AllReadyH.cons rfl (fun K hK => ?_) AllReadyH.nil
          · skip
            go_simp
            have hz1534 : (x153.alloc (.cells Z12 26)).heap.size = x153.heap.size + 1 := by simp
            have hy1534 := hHeld.size
            have f4x1534 : (x153.alloc (.cells Z12 26)).heap[x153.heap.size]? = some (.cells Z12 26) := heap_alloc_new x153 _
            have f5x1534 := keep_block f5x153 (below_box (w := x153) (.cells Z12 26))
            obtain ⟨x1534, hx1534⟩ : ∃ x, (x153.alloc (.cells Z12 26)) = x := ⟨_, rfl⟩
            rw [hx1534] at hz1534 f4x1534 f5x1534
            have HZ1534 := hide hz1534
            clear hz1534
            have hw1534 : Below y.heap.size y x1534 := hx1534 ▸ hHeld.alloc hHeld.size _
            try rw [hx1534]
            refine hK _ _ hw1534 ?_
            clear hK hHeld
            intro hHeld
            refine wpAnyH_ready (rs := [6]) (by kernel_rfl) (by simp) ?_
            refine AllReadyH.cons rfl (fun K hK => ?_) AllReadyH.nil
            refine store_upon (g := x153.heap.size) rfl rfl rfl f4x1534 (by rw [sA]; exact Try.isize26) (by rw [sA]; rfl) oA ?_
            simp only [Act.put, List.getElem_toArray, List.getElem_cons_zero, List.getElem_cons_succ]
            have hz15 := unhide HZ15
            have hz1534 := unhide HZ1534
            have hF := two_done (A := A) (B := B) hHeld f4x1534 f5x1534 (by omega) (by omega) (by omega)
            have HF := hide hF
            have HNE : Hid (x153.heap.size ≠ x1.heap.size) := (by omega : x153.heap.size ≠ x1.heap.size)
            have HLE : Hid (y.heap.size ≤ x153.heap.size) := (by omega : y.heap.size ≤ x153.heap.size)
            clear hz15 hz1534
            refine hK _ _ ⟨hHeld.os, hHeld.tape, hHeld.output, by simpa using hHeld.size, fun k hk => (setRow_other _ _ _ _ (by have := unhide HLE; omega)).trans (hHeld.block k hk)⟩ ?_
            clear hK
            intro hHeld2
            refine wpAnyH_ready (rs := [7]) (by kernel_rfl) (by simp) ?_
            refine AllReadyH.cons rfl (fun K hK => ?_) AllReadyH.nil
            refine store_upon (g := x1.heap.size) rfl rfl rfl (two_mid f5x1534 (unhide HNE)) (by rw [sB]; exact Try.isize26) (by rw [sB]; rfl) oB ?_
            simp only [Act.put, List.getElem_toArray, List.getElem_cons_zero, List.getElem_cons_succ]
            refine hK _ _ hF.choose_spec.choose_spec.2.2.2.2 ?_
            clear hK hHeld hHeld2
            intro hHeld
            refine wpAnyH_done (by kernel_rfl) ?_ _
            go_wp2_with fail
            go_meet
            case rel => exact unhide HF
        · skip
          go_simp
          have hz154 : (x15.alloc (.cells Z12 26)).heap.size = x15.heap.size + 1 := by simp
          have hy154 := hHeld.size
          have f4x154 : (x15.alloc (.cells Z12 26)).heap[x15.heap.size]? = some (.cells Z12 26) := heap_alloc_new x15 _
          have f5x154 := keep_block f5x15 (below_box (w := x15) (.cells Z12 26))
          obtain ⟨x154, hx154⟩ : ∃ x, (x15.alloc (.cells Z12 26)) = x := ⟨_, rfl⟩
          rw [hx154] at hz154 f4x154 f5x154
          have HZ154 := hide hz154
          clear hz154
          have hw154 : Below y.heap.size y x154 := hx154 ▸ hHeld.alloc hHeld.size _
          try rw [hx154]
          refine hK _ _ hw154 ?_
          clear hK hHeld
          intro hHeld
          refine wpAnyH_ready (rs := [3]) (by kernel_rfl) (by simp) ?_
          refine AllReadyH.cons rfl (fun K hK => ?_) AllReadyH.nil
          · skip
            go_simp
            refine (unhide HBB _).mono ?_
            rintro e x1543 ⟨rfl, hg⟩
            have hs1543 := hg.below.size
            have f4x1543 := keep_block f4x154 hg.below
            have f5x1543 := keep_block f5x154 hg.below
            refine hK _ _ (hHeld.trans (hg.below.mono hHeld.size)) ?_
            clear hK hHeld hg
            intro hHeld
            refine wpAnyH_ready (rs := [6]) (by kernel_rfl) (by simp) ?_
            refine AllReadyH.cons rfl (fun K hK => ?_) AllReadyH.nil
            refine store_upon (g := x15.heap.size) rfl rfl rfl f4x1543 (by rw [sA]; exact Try.isize26) (by rw [sA]; rfl) oA ?_
            simp only [Act.put, List.getElem_toArray, List.getElem_cons_zero, List.getElem_cons_succ]
            have hz15 := unhide HZ15
            have hz154 := unhide HZ154
            have hF := two_done (A := A) (B := B) hHeld f4x1543 f5x1543 (by omega) (by omega) (by omega)
            have HF := hide hF
            have HNE : Hid (x15.heap.size ≠ x1.heap.size) := (by omega : x15.heap.size ≠ x1.heap.size)
            have HLE : Hid (y.heap.size ≤ x15.heap.size) := (by omega : y.heap.size ≤ x15.heap.size)
            clear hz15 hz154
            refine hK _ _ ⟨hHeld.os, hHeld.tape, hHeld.output, by simpa using hHeld.size, fun k hk => (setRow_other _ _ _ _ (by have := unhide HLE; omega)).trans (hHeld.block k hk)⟩ ?_
            clear hK
            intro hHeld2
            refine wpAnyH_ready (rs := [7]) (by kernel_rfl) (by simp) ?_
            refine AllReadyH.cons rfl (fun K hK => ?_) AllReadyH.nil
            refine store_upon (g := x1.heap.size) rfl rfl rfl (two_mid f5x1543 (unhide HNE)) (by rw [sB]; exact Try.isize26) (by rw [sB]; rfl) oB ?_
            simp only [Act.put, List.getElem_toArray, List.getElem_cons_zero, List.getElem_cons_succ]
            refine hK _ _ hF.choose_spec.choose_spec.2.2.2.2 ?_
            clear hK hHeld hHeld2
            intro hHeld
            refine wpAnyH_done (by kernel_rfl) ?_ _
            go_wp2_with fail
            go_meet
            case rel => exact unhide HF
    · skip
      go_simp
      have hz4 : (y.alloc (.cells Z12 26)).drew.heap.size = y.heap.size + 1 := by simp
      have hy4 := hHeld.size
      have f4x4 : (y.alloc (.cells Z12 26)).drew.heap[y.heap.size]? = some (.cells Z12 26) := heap_alloc_new y _
      obtain ⟨x4, hx4⟩ : ∃ x, (y.alloc (.cells Z12 26)).drew = x := ⟨_, rfl⟩
      rw [hx4] at hz4 f4x4
      have HZ4 := hide hz4
      clear hz4
      have hw4 : Below y.heap.size y x4 := hx4 ▸ ((Below.refl _ _).alloc (Nat.le_refl _) _).drew
      try rw [hx4]
      refine hK _ _ hw4 ?_
      clear hK hHeld
      intro hHeld
      refine wpAnyH_ready (rs := [1, 5]) (by kernel_rfl) (by simp) ?_
      refine AllReadyH.cons rfl (fun K hK => ?_) (AllReadyH.cons rfl (fun K hK => ?_) AllReadyH.nil)
      · skip
        go_simp
        refine (unhide HBA _).mono ?_
        rintro e x41 ⟨rfl, hg⟩
        have hs41 := hg.below.size
        have f4x41 := keep_block f4x4 hg.below
        refine hK _ _ (hHeld.trans (hg.below.mono hHeld.size)) ?_
        clear hK hHeld hg
        intro hHeld
        refine wpAnyH_ready (rs := [3, 5]) (by kernel_rfl) (by simp) ?_
        refine AllReadyH.cons rfl (fun K hK => ?_) (AllReadyH.cons rfl (fun K hK => ?_) AllReadyH.nil)
        · skip
          go_simp
          refine (unhide HBB _).mono ?_
          rintro e x413 ⟨rfl, hg⟩
          have hs413 := hg.below.size
          have f4x413 := keep_block f4x41 hg.below
          refine hK _ _ (hHeld.trans (hg.below.mono hHeld.size)) ?_
          clear hK hHeld hg
          intro hHeld
          refine wpAnyH_ready (rs := [5]) (by kernel_rfl) (by simp) ?_
          refine AllReadyH.cons rfl (fun K hK => ?_) AllReadyH.nil
          · skip
            go_simp
            have hz4135 : (x413.alloc (.cells Z12 26)).heap.size = x413.heap.size + 1 := by simp
            have hy4135 := hHeld.size
            have f5x4135 : (x413.alloc (.cells Z12 26)).heap[x413.heap.size]? = some (.cells Z12 26) := heap_alloc_new x413 _
            have f4x4135 := keep_block f4x413 (below_box (w := x413) (.cells Z12 26))
            obtain ⟨x4135, hx4135⟩ : ∃ x, (x413.alloc (.cells Z12 26)) = x := ⟨_, rfl⟩
            rw [hx4135] at hz4135 f5x4135 f4x4135
            have HZ4135 := hide hz4135
            clear hz4135
            have hw4135 : Below y.heap.size y x4135 := hx4135 ▸ hHeld.alloc hHeld.size _
            try rw [hx4135]
            refine hK _ _ hw4135 ?_
            clear hK hHeld
            intro hHeld
            refine wpAnyH_ready (rs := [6]) (by kernel_rfl) (by simp) ?_
            refine AllReadyH.cons rfl (fun K hK => ?_) AllReadyH.nil
            refine store_upon (g := y.heap.size) rfl rfl rfl f4x4135 (by rw [sA]; exact Try.isize26) (by rw [sA]; rfl) oA ?_
            simp only [Act.put, List.getElem_toArray, List.getElem_cons_zero, List.getElem_cons_succ]
            have hz4 := unhide HZ4
            have hz4135 := unhide HZ4135
            have hF := two_done (A := A) (B := B) hHeld f4x4135 f5x4135 (by omega) (by omega) (by omega)
            have HF := hide hF
            have HNE : Hid (y.heap.size ≠ x413.heap.size) := (by omega : y.heap.size ≠ x413.heap.size)
            have HLE : Hid (y.heap.size ≤ y.heap.size) := (by omega : y.heap.size ≤ y.heap.size)
            clear hz4 hz4135
            refine hK _ _ ⟨hHeld.os, hHeld.tape, hHeld.output, by simpa using hHeld.size, fun k hk => (setRow_other _ _ _ _ (by have := unhide HLE; omega)).trans (hHeld.block k hk)⟩ ?_
            clear hK
            intro hHeld2
            refine wpAnyH_ready (rs := [7]) (by kernel_rfl) (by simp) ?_
            refine AllReadyH.cons rfl (fun K hK => ?_) AllReadyH.nil
            refine store_upon (g := x413.heap.size) rfl rfl rfl (two_mid f5x4135 (unhide HNE)) (by rw [sB]; exact Try.isize26) (by rw [sB]; rfl) oB ?_
            simp only [Act.put, List.getElem_toArray, List.getElem_cons_zero, List.getElem_cons_succ]
            refine hK _ _ hF.choose_spec.choose_spec.2.2.2.2 ?_
            clear hK hHeld hHeld2
            intro hHeld
            refine wpAnyH_done (by kernel_rfl) ?_ _
            go_wp2_with fail
            go_meet
            case rel => exact unhide HF
        · skip
          go_simp
          have hz415 : (x41.alloc (.cells Z12 26)).heap.size = x41.heap.size + 1 := by simp
          have hy415 := hHeld.size
          have f5x415 : (x41.alloc (.cells Z12 26)).heap[x41.heap.size]? = some (.cells Z12 26) := heap_alloc_new x41 _
          have f4x415 := keep_block f4x41 (below_box (w := x41) (.cells Z12 26))
          obtain ⟨x415, hx415⟩ : ∃ x, (x41.alloc (.cells Z12 26)) = x := ⟨_, rfl⟩
          rw [hx415] at hz415 f5x415 f4x415
          have HZ415 := hide hz415
          clear hz415
          have hw415 : Below y.heap.size y x415 := hx415 ▸ hHeld.alloc hHeld.size _
          try rw [hx415]
          refine hK _ _ hw415 ?_
          clear hK hHeld
          intro hHeld
          refine wpAnyH_ready (rs := [3]) (by kernel_rfl) (by simp) ?_
          refine AllReadyH.cons rfl (fun K hK => ?_) AllReadyH.nil
          · skip
            go_simp
            refine (unhide HBB _).mono ?_
            rintro e x4153 ⟨rfl, hg⟩
            have hs4153 := hg.below.size
            have f5x4153 := keep_block f5x415 hg.below
            have f4x4153 := keep_block f4x415 hg.below
            refine hK _ _ (hHeld.trans (hg.below.mono hHeld.size)) ?_
            clear hK hHeld hg
            intro hHeld
            refine wpAnyH_ready (rs := [6]) (by kernel_rfl) (by simp) ?_
            refine AllReadyH.cons rfl (fun K hK => ?_) AllReadyH.nil
            refine store_upon (g := y.heap.size) rfl rfl rfl f4x4153 (by rw [sA]; exact Try.isize26) (by rw [sA]; rfl) oA ?_
            simp only [Act.put, List.getElem_toArray, List.getElem_cons_zero, List.getElem_cons_succ]
            have hz4 := unhide HZ4
            have hz415 := unhide HZ415
            have hF := two_done (A := A) (B := B) hHeld f4x4153 f5x4153 (by omega) (by omega) (by omega)
            have HF := hide hF
            have HNE : Hid (y.heap.size ≠ x41.heap.size) := (by omega : y.heap.size ≠ x41.heap.size)
            have HLE : Hid (y.heap.size ≤ y.heap.size) := (by omega : y.heap.size ≤ y.heap.size)
            clear hz4 hz415
            refine hK _ _ ⟨hHeld.os, hHeld.tape, hHeld.output, by simpa using hHeld.size, fun k hk => (setRow_other _ _ _ _ (by have := unhide HLE; omega)).trans (hHeld.block k hk)⟩ ?_
            clear hK
            intro hHeld2
            refine wpAnyH_ready (rs := [7]) (by kernel_rfl) (by simp) ?_
            refine AllReadyH.cons rfl (fun K hK => ?_) AllReadyH.nil
            refine store_upon (g := x41.heap.size) rfl rfl rfl (two_mid f5x4153 (unhide HNE)) (by rw [sB]; exact Try.isize26) (by rw [sB]; rfl) oB ?_
            simp only [Act.put, List.getElem_toArray, List.getElem_cons_zero, List.getElem_cons_succ]
            refine hK _ _ hF.choose_spec.choose_spec.2.2.2.2 ?_
            clear hK hHeld hHeld2
            intro hHeld
            refine wpAnyH_done (by kernel_rfl) ?_ _
            go_wp2_with fail
            go_meet
            case rel => exact unhide HF
      · skip
        go_simp
        have hz45 : (x4.alloc (.cells Z12 26)).heap.size = x4.heap.size + 1 := by simp
        have hy45 := hHeld.size
        have f5x45 : (x4.alloc (.cells Z12 26)).heap[x4.heap.size]? = some (.cells Z12 26) := heap_alloc_new x4 _
        have f4x45 := keep_block f4x4 (below_box (w := x4) (.cells Z12 26))
        obtain ⟨x45, hx45⟩ : ∃ x, (x4.alloc (.cells Z12 26)) = x := ⟨_, rfl⟩
        rw [hx45] at hz45 f5x45 f4x45
        have HZ45 := hide hz45
        clear hz45
        have hw45 : Below y.heap.size y x45 := hx45 ▸ hHeld.alloc hHeld.size _
        try rw [hx45]
        refine hK _ _ hw45 ?_
        clear hK hHeld
        intro hHeld
        refine wpAnyH_ready (rs := [1]) (by kernel_rfl) (by simp) ?_
        refine AllReadyH.cons rfl (fun K hK => ?_) AllReadyH.nil
        · skip
          go_simp
          refine (unhide HBA _).mono ?_
          rintro e x451 ⟨rfl, hg⟩
          have hs451 := hg.below.size
          have f5x451 := keep_block f5x45 hg.below
          have f4x451 := keep_block f4x45 hg.below
          refine hK _ _ (hHeld.trans (hg.below.mono hHeld.size)) ?_
          clear hK hHeld hg
          intro hHeld
          refine wpAnyH_ready (rs := [3]) (by kernel_rfl) (by simp) ?_
          refine AllReadyH.cons rfl (fun K hK => ?_) AllReadyH.nil
          · skip
            go_simp
            refine (unhide HBB _).mono ?_
            rintro e x4513 ⟨rfl, hg⟩
            have hs4513 := hg.below.size
            have f5x4513 := keep_block f5x451 hg.below
            have f4x4513 := keep_block f4x451 hg.below
            refine hK _ _ (hHeld.trans (hg.below.mono hHeld.size)) ?_
            clear hK hHeld hg
            intro hHeld
            refine wpAnyH_ready (rs := [6]) (by kernel_rfl) (by simp) ?_
            refine AllReadyH.cons rfl (fun K hK => ?_) AllReadyH.nil
            refine store_upon (g := y.heap.size) rfl rfl rfl f4x4513 (by rw [sA]; exact Try.isize26) (by rw [sA]; rfl) oA ?_
            simp only [Act.put, List.getElem_toArray, List.getElem_cons_zero, List.getElem_cons_succ]
            have hz4 := unhide HZ4
            have hz45 := unhide HZ45
            have hF := two_done (A := A) (B := B) hHeld f4x4513 f5x4513 (by omega) (by omega) (by omega)
            have HF := hide hF
            have HNE : Hid (y.heap.size ≠ x4.heap.size) := (by omega : y.heap.size ≠ x4.heap.size)
            have HLE : Hid (y.heap.size ≤ y.heap.size) := (by omega : y.heap.size ≤ y.heap.size)
            clear hz4 hz45
            refine hK _ _ ⟨hHeld.os, hHeld.tape, hHeld.output, by simpa using hHeld.size, fun k hk => (setRow_other _ _ _ _ (by have := unhide HLE; omega)).trans (hHeld.block k hk)⟩ ?_
            clear hK
            intro hHeld2
            refine wpAnyH_ready (rs := [7]) (by kernel_rfl) (by simp) ?_
            refine AllReadyH.cons rfl (fun K hK => ?_) AllReadyH.nil
            refine store_upon (g := x4.heap.size) rfl rfl rfl (two_mid f5x4513 (unhide HNE)) (by rw [sB]; exact Try.isize26) (by rw [sB]; rfl) oB ?_
            simp only [Act.put, List.getElem_toArray, List.getElem_cons_zero, List.getElem_cons_succ]
            refine hK _ _ hF.choose_spec.choose_spec.2.2.2.2 ?_
            clear hK hHeld hHeld2
            intro hHeld
            refine wpAnyH_done (by kernel_rfl) ?_ _
            go_wp2_with fail
            go_meet
            case rel => exact unhide HF
    · skip
      go_simp
      have hz5 : (y.alloc (.cells Z12 26)).drew.heap.size = y.heap.size + 1 := by simp
      have hy5 := hHeld.size
      have f5x5 : (y.alloc (.cells Z12 26)).drew.heap[y.heap.size]? = some (.cells Z12 26) := heap_alloc_new y _
      obtain ⟨x5, hx5⟩ : ∃ x, (y.alloc (.cells Z12 26)).drew = x := ⟨_, rfl⟩
      rw [hx5] at hz5 f5x5
      have HZ5 := hide hz5
      clear hz5
      have hw5 : Below y.heap.size y x5 := hx5 ▸ ((Below.refl _ _).alloc (Nat.le_refl _) _).drew
      try rw [hx5]
      refine hK _ _ hw5 ?_
      clear hK hHeld
      intro hHeld
      refine wpAnyH_ready (rs := [1, 4]) (by kernel_rfl) (by simp) ?_
      refine AllReadyH.cons rfl (fun K hK => ?_) (AllReadyH.cons rfl (fun K hK => ?_) AllReadyH.nil)
      · skip
        go_simp
        refine (unhide HBA _).mono ?_
        rintro e x51 ⟨rfl, hg⟩
        have hs51 := hg.below.size
        have f5x51 := keep_block f5x5 hg.below
        refine hK _ _ (hHeld.trans (hg.below.mono hHeld.size)) ?_
        clear hK hHeld hg
        intro hHeld
        refine wpAnyH_ready (rs := [3, 4]) (by kernel_rfl) (by simp) ?_
        refine AllReadyH.cons rfl (fun K hK => ?_) (AllReadyH.cons rfl (fun K hK => ?_) AllReadyH.nil)
        · skip
          go_simp
          refine (unhide HBB _).mono ?_
          rintro e x513 ⟨rfl, hg⟩
          have hs513 := hg.below.size
          have f5x513 := keep_block f5x51 hg.below
          refine hK _ _ (hHeld.trans (hg.below.mono hHeld.size)) ?_
          clear hK hHeld hg
          intro hHeld
          refine wpAnyH_ready (rs := [4]) (by kernel_rfl) (by simp) ?_
          refine AllReadyH.cons rfl (fun K hK => ?_) AllReadyH.nil
          · skip
            go_simp
            have hz5134 : (x513.alloc (.cells Z12 26)).heap.size = x513.heap.size + 1 := by simp
            have hy5134 := hHeld.size
            have f4x5134 : (x513.alloc (.cells Z12 26)).heap[x513.heap.size]? = some (.cells Z12 26) := heap_alloc_new x513 _
            have f5x5134 := keep_block f5x513 (below_box (w := x513) (.cells Z12 26))
            obtain ⟨x5134, hx5134⟩ : ∃ x, (x513.alloc (.cells Z12 26)) = x := ⟨_, rfl⟩
            rw [hx5134] at hz5134 f4x5134 f5x5134
            have HZ5134 := hide hz5134
            clear hz5134
            have hw5134 : Below y.heap.size y x5134 := hx5134 ▸ hHeld.alloc hHeld.size _
            try rw [hx5134]
            refine hK _ _ hw5134 ?_
            clear hK hHeld
            intro hHeld
            refine wpAnyH_ready (rs := [6]) (by kernel_rfl) (by simp) ?_
            refine AllReadyH.cons rfl (fun K hK => ?_) AllReadyH.nil
            refine store_upon (g := x513.heap.size) rfl rfl rfl f4x5134 (by rw [sA]; exact Try.isize26) (by rw [sA]; rfl) oA ?_
            simp only [Act.put, List.getElem_toArray, List.getElem_cons_zero, List.getElem_cons_succ]
            have hz5 := unhide HZ5
            have hz5134 := unhide HZ5134
            have hF := two_done (A := A) (B := B) hHeld f4x5134 f5x5134 (by omega) (by omega) (by omega)
            have HF := hide hF
            have HNE : Hid (x513.heap.size ≠ y.heap.size) := (by omega : x513.heap.size ≠ y.heap.size)
            have HLE : Hid (y.heap.size ≤ x513.heap.size) := (by omega : y.heap.size ≤ x513.heap.size)
            clear hz5 hz5134
            refine hK _ _ ⟨hHeld.os, hHeld.tape, hHeld.output, by simpa using hHeld.size, fun k hk => (setRow_other _ _ _ _ (by have := unhide HLE; omega)).trans (hHeld.block k hk)⟩ ?_
            clear hK
            intro hHeld2
            refine wpAnyH_ready (rs := [7]) (by kernel_rfl) (by simp) ?_
            refine AllReadyH.cons rfl (fun K hK => ?_) AllReadyH.nil
            refine store_upon (g := y.heap.size) rfl rfl rfl (two_mid f5x5134 (unhide HNE)) (by rw [sB]; exact Try.isize26) (by rw [sB]; rfl) oB ?_
            simp only [Act.put, List.getElem_toArray, List.getElem_cons_zero, List.getElem_cons_succ]
            refine hK _ _ hF.choose_spec.choose_spec.2.2.2.2 ?_
            clear hK hHeld hHeld2
            intro hHeld
            refine wpAnyH_done (by kernel_rfl) ?_ _
            go_wp2_with fail
            go_meet
            case rel => exact unhide HF
        · skip
          go_simp
          have hz514 : (x51.alloc (.cells Z12 26)).heap.size = x51.heap.size + 1 := by simp
          have hy514 := hHeld.size
          have f4x514 : (x51.alloc (.cells Z12 26)).heap[x51.heap.size]? = some (.cells Z12 26) := heap_alloc_new x51 _
          have f5x514 := keep_block f5x51 (below_box (w := x51) (.cells Z12 26))
          obtain ⟨x514, hx514⟩ : ∃ x, (x51.alloc (.cells Z12 26)) = x := ⟨_, rfl⟩
          rw [hx514] at hz514 f4x514 f5x514
          have HZ514 := hide hz514
          clear hz514
          have hw514 : Below y.heap.size y x514 := hx514 ▸ hHeld.alloc hHeld.size _
          try rw [hx514]
          refine hK _ _ hw514 ?_
          clear hK hHeld
          intro hHeld
          refine wpAnyH_ready (rs := [3]) (by kernel_rfl) (by simp) ?_
          refine AllReadyH.cons rfl (fun K hK => ?_) AllReadyH.nil
          · skip
            go_simp
            refine (unhide HBB _).mono ?_
            rintro e x5143 ⟨rfl, hg⟩
            have hs5143 := hg.below.size
            have f4x5143 := keep_block f4x514 hg.below
            have f5x5143 := keep_block f5x514 hg.below
            refine hK _ _ (hHeld.trans (hg.below.mono hHeld.size)) ?_
            clear hK hHeld hg
            intro hHeld
            refine wpAnyH_ready (rs := [6]) (by kernel_rfl) (by simp) ?_
            refine AllReadyH.cons rfl (fun K hK => ?_) AllReadyH.nil
            refine store_upon (g := x51.heap.size) rfl rfl rfl f4x5143 (by rw [sA]; exact Try.isize26) (by rw [sA]; rfl) oA ?_
            simp only [Act.put, List.getElem_toArray, List.getElem_cons_zero, List.getElem_cons_succ]
            have hz5 := unhide HZ5
            have hz514 := unhide HZ514
            have hF := two_done (A := A) (B := B) hHeld f4x5143 f5x5143 (by omega) (by omega) (by omega)
            have HF := hide hF
            have HNE : Hid (x51.heap.size ≠ y.heap.size) := (by omega : x51.heap.size ≠ y.heap.size)
            have HLE : Hid (y.heap.size ≤ x51.heap.size) := (by omega : y.heap.size ≤ x51.heap.size)
            clear hz5 hz514
            refine hK _ _ ⟨hHeld.os, hHeld.tape, hHeld.output, by simpa using hHeld.size, fun k hk => (setRow_other _ _ _ _ (by have := unhide HLE; omega)).trans (hHeld.block k hk)⟩ ?_
            clear hK
            intro hHeld2
            refine wpAnyH_ready (rs := [7]) (by kernel_rfl) (by simp) ?_
            refine AllReadyH.cons rfl (fun K hK => ?_) AllReadyH.nil
            refine store_upon (g := y.heap.size) rfl rfl rfl (two_mid f5x5143 (unhide HNE)) (by rw [sB]; exact Try.isize26) (by rw [sB]; rfl) oB ?_
            simp only [Act.put, List.getElem_toArray, List.getElem_cons_zero, List.getElem_cons_succ]
            refine hK _ _ hF.choose_spec.choose_spec.2.2.2.2 ?_
            clear hK hHeld hHeld2
            intro hHeld
            refine wpAnyH_done (by kernel_rfl) ?_ _
            go_wp2_with fail
            go_meet
            case rel => exact unhide HF
      · skip
        go_simp
        have hz54 : (x5.alloc (.cells Z12 26)).heap.size = x5.heap.size + 1 := by simp
        have hy54 := hHeld.size
        have f4x54 : (x5.alloc (.cells Z12 26)).heap[x5.heap.size]? = some (.cells Z12 26) := heap_alloc_new x5 _
        have f5x54 := keep_block f5x5 (below_box (w := x5) (.cells Z12 26))
        obtain ⟨x54, hx54⟩ : ∃ x, (x5.alloc (.cells Z12 26)) = x := ⟨_, rfl⟩
        rw [hx54] at hz54 f4x54 f5x54
        have HZ54 := hide hz54
        clear hz54
        have hw54 : Below y.heap.size y x54 := hx54 ▸ hHeld.alloc hHeld.size _
        try rw [hx54]
        refine hK _ _ hw54 ?_
        clear hK hHeld
        intro hHeld
        refine wpAnyH_ready (rs := [1]) (by kernel_rfl) (by simp) ?_
        refine AllReadyH.cons rfl (fun K hK => ?_) AllReadyH.nil
        · skip
          go_simp
          refine (unhide HBA _).mono ?_
          rintro e x541 ⟨rfl, hg⟩
          have hs541 := hg.below.size
          have f4x541 := keep_block f4x54 hg.below
          have f5x541 := keep_block f5x54 hg.below
          refine hK _ _ (hHeld.trans (hg.below.mono hHeld.size)) ?_
          clear hK hHeld hg
          intro hHeld
          refine wpAnyH_ready (rs := [3]) (by kernel_rfl) (by simp) ?_
          refine AllReadyH.cons rfl (fun K hK => ?_) AllReadyH.nil
          · skip
            go_simp
            refine (unhide HBB _).mono ?_
            rintro e x5413 ⟨rfl, hg⟩
            have hs5413 := hg.below.size
            have f4x5413 := keep_block f4x541 hg.below
            have f5x5413 := keep_block f5x541 hg.below
            refine hK _ _ (hHeld.trans (hg.below.mono hHeld.size)) ?_
            clear hK hHeld hg
            intro hHeld
            refine wpAnyH_ready (rs := [6]) (by kernel_rfl) (by simp) ?_
            refine AllReadyH.cons rfl (fun K hK => ?_) AllReadyH.nil
            refine store_upon (g := x5.heap.size) rfl rfl rfl f4x5413 (by rw [sA]; exact Try.isize26) (by rw [sA]; rfl) oA ?_
            simp only [Act.put, List.getElem_toArray, List.getElem_cons_zero, List.getElem_cons_succ]
            have hz5 := unhide HZ5
            have hz54 := unhide HZ54
            have hF := two_done (A := A) (B := B) hHeld f4x5413 f5x5413 (by omega) (by omega) (by omega)
            have HF := hide hF
            have HNE : Hid (x5.heap.size ≠ y.heap.size) := (by omega : x5.heap.size ≠ y.heap.size)
            have HLE : Hid (y.heap.size ≤ x5.heap.size) := (by omega : y.heap.size ≤ x5.heap.size)
            clear hz5 hz54
            refine hK _ _ ⟨hHeld.os, hHeld.tape, hHeld.output, by simpa using hHeld.size, fun k hk => (setRow_other _ _ _ _ (by have := unhide HLE; omega)).trans (hHeld.block k hk)⟩ ?_
            clear hK
            intro hHeld2
            refine wpAnyH_ready (rs := [7]) (by kernel_rfl) (by simp) ?_
            refine AllReadyH.cons rfl (fun K hK => ?_) AllReadyH.nil
            refine store_upon (g := y.heap.size) rfl rfl rfl (two_mid f5x5413 (unhide HNE)) (by rw [sB]; exact Try.isize26) (by rw [sB]; rfl) oB ?_
            simp only [Act.put, List.getElem_toArray, List.getElem_cons_zero, List.getElem_cons_succ]
            refine hK _ _ hF.choose_spec.choose_spec.2.2.2.2 ?_
            clear hK hHeld hHeld2
            intro hHeld
            refine wpAnyH_done (by kernel_rfl) ?_ _
            go_wp2_with fail
            go_meet
            case rel => exact unhide HF
  case rest =>
    obtain ⟨g, h, rfl, rfl, xg, xh, hby⟩ := hcut
    have HG : Hid (∀ x, Below wc.heap.size wc x → x.heap[g]? = some (.cells A 26) ∧ x.heap[h]? = some (.cells B 26) ∧ Below y.heap.size y x) := fun x hx => ⟨keep_block xg hx, keep_block xh hx, hby.trans (hx.mono hby.size)⟩
    have HEA : Hid (∀ x, (binOp .eql 23 (.agg #[.int .i32 a0, .int .i64 a1]) (.agg #[.int .i32 a0, .int .i64 a1])).run Try.prog x = .ok (.bool true) x) := fun x => by rw [eql_key]; simp
    clear xg xh hby oA oB oC sB
    rcases lex_split (bl (a0, a1)) (bl (b0, b1)) rfl with ⟨heq, hlx⟩ | ⟨m, hm, heq, hlx⟩
    · rw [unhide HLX] at hlx
      subst hlx
      have HQ : Hid (∀ u, u < 12 → (bl (a0, a1)).getD u 0 = (bl (b0, b1)).getD u 0) := fun u _ => by rw [heq]
      clear heq HLX
      go_wp2_with fail
      go_loopw [9, 15] (fun o t wr => ∃ n : Nat, n ≤ 12 ∧ o = .int .i64 0 ∧ t = .int .i64 n ∧ Below wc.heap.size wc wr) (fun _ t _ => 12 - (intOf t).toNat)
      case atStart => exact ⟨0, by omega, rfl, rfl, Below.refl _ _⟩
      case round =>
        obtain ⟨n, hn, rfl, rfl, hbr⟩ := hrel
        have HR := hide hbr
        by_cases hlt : n < 12
        · obtain ⟨zg, zh, _⟩ := unhide HG wr hbr
          obtain ⟨p, hp⟩ : ∃ p, (bl (a0, a1)).getD n 0 = p := ⟨_, rfl⟩
          have c1 : wr.cell? ⟨g, n, none⟩ = some (.int .u8 p) := by rw [cell_at zg, unhide HAA n hlt, hp]
          have c2 : wr.cell? ⟨h, n, none⟩ = some (.int .u8 p) := by rw [cell_at zh, unhide HAB n hlt, ← unhide HQ n hlt, hp]
          clear zg zh hp hbr
          go_wp2_with fail
          refine wp_region_held_drew (S := fun x => x.cell? ⟨g, n, none⟩ = some (.int .u8 p) ∧ x.cell? ⟨h, n, none⟩ = some (.int .u8 p)) (by kernel_rfl) ⟨c1, c2⟩ (fun hHeld => ?_)
          refine wpAnyH_take (i := 0) (v := ?v3x0) rfl (by kernel_rfl) (by kernel_rfl) (by kernel_rfl) (fun _ _ _ h => h) (Or.inl ⟨by rfl, ?hy3x0⟩) (by assumption) ?rest3x0
          case hy3x0 => intro w hSw; obtain ⟨s1, s2⟩ := hSw; go_simp <;> with_reducible rfl
          simp only [Act.put, List.getElem_toArray, List.getElem_cons_zero, List.setIfInBounds_toArray, List.set_cons_zero, List.set_cons_succ]
          refine wpAnyH_take (i := 1) (v := ?v4x1) rfl (by kernel_rfl) (by kernel_rfl) (by kernel_rfl) (fun _ _ _ h => h) (Or.inl ⟨by rfl, ?hy4x1⟩) (by assumption) ?rest4x1
          case hy4x1 => intro w hSw; obtain ⟨s1, s2⟩ := hSw; go_simp <;> with_reducible rfl
          simp only [Act.put, List.getElem_toArray, List.getElem_cons_zero, List.getElem_cons_succ, List.setIfInBounds_toArray, List.set_cons_zero, List.set_cons_succ]
          refine wpAnyH_take (i := 2) (v := (.int .u8 p)) rfl (by kernel_rfl) (by kernel_rfl) (by kernel_rfl) (fun _ _ _ h => h) (Or.inl ⟨by rfl, ?hy5x2⟩) (by assumption) ?rest5x2
          case hy5x2 => intro w hSw; obtain ⟨s1, s2⟩ := hSw; go_simp <;> with_reducible rfl
          simp only [Act.put, List.getElem_toArray, List.getElem_cons_zero, List.getElem_cons_succ, List.setIfInBounds_toArray, List.set_cons_zero, List.set_cons_succ]
          refine wpAnyH_take (i := 3) (v := ?v6x3) rfl (by kernel_rfl) (by kernel_rfl) (by kernel_rfl) (fun _ _ _ h => h) (Or.inl ⟨by rfl, ?hy6x3⟩) (by assumption) ?rest6x3
          case hy6x3 => intro w hSw; obtain ⟨s1, s2⟩ := hSw; go_simp <;> with_reducible rfl
          simp only [Act.put, List.getElem_toArray, List.getElem_cons_zero, List.getElem_cons_succ, List.setIfInBounds_toArray, List.set_cons_zero, List.set_cons_succ]
          refine wpAnyH_take (i := 4) (v := ?v7x4) rfl (by kernel_rfl) (by kernel_rfl) (by kernel_rfl) (fun _ _ _ h => h) (Or.inl ⟨by rfl, ?hy7x4⟩) (by assumption) ?rest7x4
          case hy7x4 => intro w hSw; obtain ⟨s1, s2⟩ := hSw; go_simp <;> with_reducible rfl
          simp only [Act.put, List.getElem_toArray, List.getElem_cons_zero, List.getElem_cons_succ, List.setIfInBounds_toArray, List.set_cons_zero, List.set_cons_succ]
          refine wpAnyH_take (i := 5) (v := (.int .u8 p)) rfl (by kernel_rfl) (by kernel_rfl) (by kernel_rfl) (fun _ _ _ h => h) (Or.inl ⟨by rfl, ?hy8x5⟩) (by assumption) ?rest8x5
          case hy8x5 => intro w hSw; obtain ⟨s1, s2⟩ := hSw; go_simp <;> with_reducible rfl
          simp only [Act.put, List.getElem_toArray, List.getElem_cons_zero, List.getElem_cons_succ, List.setIfInBounds_toArray, List.set_cons_zero, List.set_cons_succ]
          refine wpAnyH_take (i := 6) (v := (.bool false)) rfl (by kernel_rfl) (by kernel_rfl) (by kernel_rfl) (fun _ _ _ h => h) (Or.inl ⟨by rfl, ?hy9x6⟩) (by assumption) ?rest9x6
          case hy9x6 => intro w hSw; obtain ⟨s1, s2⟩ := hSw; go_simp <;> with_reducible rfl
          simp only [Act.put, List.getElem_toArray, List.getElem_cons_zero, List.getElem_cons_succ, List.setIfInBounds_toArray, List.set_cons_zero, List.set_cons_succ]
          refine wpAnyH_done (by kernel_rfl) ?_ _
          go_wp2
          go_roundw
          case rel => exact ⟨n + 1, by omega, rfl, by go_num, (unhide HR).drew⟩
          case measure => simp [intOf]; omega
        · obtain rfl : n = 12 := by omega
          clear hbr
          go_wp2_with fail
          refine wp_region_held_drew (S := fun x => Below wc.heap.size wc x) (by kernel_rfl) (unhide HR).drew (fun hHeld => ?_)
          refine wpAnyH_ready (rs := [0]) (by as_aux_lemma => kernel_rfl) (by simp) ?_
          refine AllReadyH.cons rfl (fun K hK => ?_) AllReadyH.nil
          go_simp
          refine (live_on (by assumption)).mono ?_
          rintro e wq ⟨rfl, hb1⟩
          refine hK _ _ hb1 ?_
          clear hK hHeld
          intro hHeld
          refine wpAnyH_take (i := 1) (v := ?v10x1) rfl (by as_aux_lemma => kernel_rfl) (by as_aux_lemma => kernel_rfl) (by as_aux_lemma => kernel_rfl) (fun _ _ _ h => h) (Or.inl ⟨by rfl, ?hy10x1⟩) (by assumption) ?rest10x1
          case hy10x1 => intro w hSw; go_simp <;> with_reducible rfl
          simp only [Act.put, List.getElem_toArray, List.getElem_cons_zero, List.getElem_cons_succ, List.setIfInBounds_toArray, List.set_cons_zero, List.set_cons_succ]
          refine wpAnyH_take (i := 2) (v := ?v11x2) rfl (by as_aux_lemma => kernel_rfl) (by as_aux_lemma => kernel_rfl) (by as_aux_lemma => kernel_rfl) (fun _ _ _ h => h) (Or.inl ⟨by rfl, ?hy11x2⟩) (by assumption) ?rest11x2
          case hy11x2 => intro w hSw; go_simp <;> with_reducible rfl
          simp only [Act.put, List.getElem_toArray, List.getElem_cons_zero, List.getElem_cons_succ, List.setIfInBounds_toArray, List.set_cons_zero, List.set_cons_succ]
          refine wpAnyH_take (i := 3) (v := (.agg #[.int .i32 a0, .int .i64 a1])) rfl (by as_aux_lemma => kernel_rfl) (by as_aux_lemma => kernel_rfl) (by as_aux_lemma => kernel_rfl) (fun _ _ _ h => h) (Or.inl ⟨by rfl, ?hy12x3⟩) (by assumption) ?rest12x3
          case hy12x3 => intro w hSw; obtain ⟨s1, s2⟩ := unhide HA _ (unhide HG _ hSw).2.2; go_simp <;> with_reducible rfl
          simp only [Act.put, List.getElem_toArray, List.getElem_cons_zero, List.getElem_cons_succ, List.setIfInBounds_toArray, List.set_cons_zero, List.set_cons_succ]
          refine wpAnyH_take (i := 4) (v := (.agg #[.int .i32 b0, .int .i64 b1])) rfl (by as_aux_lemma => kernel_rfl) (by as_aux_lemma => kernel_rfl) (by as_aux_lemma => kernel_rfl) (fun _ _ _ h => h) (Or.inl ⟨by rfl, ?hy13x4⟩) (by assumption) ?rest13x4
          case hy13x4 => intro w hSw; obtain ⟨s1, s2⟩ := unhide HB _ (unhide HG _ hSw).2.2; go_simp <;> with_reducible rfl
          simp only [Act.put, List.getElem_toArray, List.getElem_cons_zero, List.getElem_cons_succ, List.setIfInBounds_toArray, List.set_cons_zero, List.set_cons_succ]
          refine wpAnyH_ready (rs := [5]) (by as_aux_lemma => kernel_rfl) (by simp) ?_
          refine AllReadyH.cons rfl (fun K hK => ?_) AllReadyH.nil
          go_simp
          refine (grew_on (by assumption) (unhide HCM _)).mono ?_
          rintro e wq ⟨rfl, hb1⟩
          refine hK _ _ hb1 ?_
          clear hK hHeld
          intro hHeld
          refine wpAnyH_take (i := 6) (v := (.bool true)) rfl (by as_aux_lemma => kernel_rfl) (by as_aux_lemma => kernel_rfl) (by as_aux_lemma => kernel_rfl) (fun _ _ _ h => h) (Or.inl ⟨by rfl, ?hy14x6⟩) (by assumption) ?rest14x6
          case hy14x6 => intro w hSw; go_simp <;> with_reducible rfl
          simp only [Act.put, List.getElem_toArray, List.getElem_cons_zero, List.getElem_cons_succ, List.setIfInBounds_toArray, List.set_cons_zero, List.set_cons_succ]
          refine wpAnyH_take (i := 7) (v := (.bool true)) rfl (by as_aux_lemma => kernel_rfl) (by as_aux_lemma => kernel_rfl) (by as_aux_lemma => kernel_rfl) (fun _ _ _ h => h) (Or.inl ⟨by rfl, ?hy15x7⟩) (by assumption) ?rest15x7
          case hy15x7 => intro w hSw; go_simp <;> with_reducible rfl
          simp only [Act.put, List.getElem_toArray, List.getElem_cons_zero, List.getElem_cons_succ, List.setIfInBounds_toArray, List.set_cons_zero, List.set_cons_succ]
          refine wpAnyH_take (i := 8) (v := ?v16x8) rfl (by as_aux_lemma => kernel_rfl) (by as_aux_lemma => kernel_rfl) (by as_aux_lemma => kernel_rfl) (fun _ _ _ h => h) (Or.inl ⟨by rfl, ?hy16x8⟩) (by assumption) ?rest16x8
          case hy16x8 => intro w hSw; go_simp <;> with_reducible rfl
          simp only [Act.put, List.getElem_toArray, List.getElem_cons_zero, List.getElem_cons_succ, List.setIfInBounds_toArray, List.set_cons_zero, List.set_cons_succ]
          refine wpAnyH_take (i := 9) (v := (.agg A)) rfl (by as_aux_lemma => kernel_rfl) (by as_aux_lemma => kernel_rfl) (by as_aux_lemma => kernel_rfl) (fun _ _ _ h => h) (Or.inl ⟨by rfl, ?hy17x9⟩) (by assumption) ?rest17x9
          case hy17x9 => intro w hSw; exact run_loadA rfl rfl (unhide HG _ hSw).1 Try.underlying26 (by rw [sA]; exact Try.isize26) rfl
          simp only [Act.put, List.getElem_toArray, List.getElem_cons_zero, List.getElem_cons_succ, List.setIfInBounds_toArray, List.set_cons_zero, List.set_cons_succ]
          refine wpAnyH_take (i := 11) (v := (.agg #[.int .i32 a0, .int .i64 a1])) rfl (by as_aux_lemma => kernel_rfl) (by as_aux_lemma => kernel_rfl) (by as_aux_lemma => kernel_rfl) (fun _ _ _ h => h) (Or.inl ⟨by rfl, ?hy18x11⟩) (by assumption) ?rest18x11
          case hy18x11 => intro w hSw; obtain ⟨s1, s2⟩ := unhide HA _ (unhide HG _ hSw).2.2; go_simp <;> with_reducible rfl
          simp only [Act.put, List.getElem_toArray, List.getElem_cons_zero, List.getElem_cons_succ, List.setIfInBounds_toArray, List.set_cons_zero, List.set_cons_succ]
          refine wpAnyH_ready (rs := [10]) (by as_aux_lemma => kernel_rfl) (by simp) ?_
          refine AllReadyH.cons rfl (fun K hK => ?_) AllReadyH.nil
          go_simp
          refine (grew_on (by assumption) (unhide HFA _)).mono ?_
          rintro e wq ⟨rfl, hb1⟩
          refine hK _ _ hb1 ?_
          clear hK hHeld
          intro hHeld
          refine wpAnyH_take (i := 12) (v := (.bool true)) rfl (by as_aux_lemma => kernel_rfl) (by as_aux_lemma => kernel_rfl) (by as_aux_lemma => kernel_rfl) (fun _ _ _ h => h) (Or.inl ⟨by rfl, ?hy19x12⟩) (by assumption) ?rest19x12
          case hy19x12 => intro w hSw; have hE := (unhide HEA); go_simp <;> with_reducible rfl
          simp only [Act.put, List.getElem_toArray, List.getElem_cons_zero, List.getElem_cons_succ, List.setIfInBounds_toArray, List.set_cons_zero, List.set_cons_succ]
          refine wpAnyH_take (i := 13) (v := (.bool true)) rfl (by as_aux_lemma => kernel_rfl) (by as_aux_lemma => kernel_rfl) (by as_aux_lemma => kernel_rfl) (fun _ _ _ h => h) (Or.inl ⟨by rfl, ?hy20x13⟩) (by assumption) ?rest20x13
          case hy20x13 => intro w hSw; go_simp <;> with_reducible rfl
          simp only [Act.put, List.getElem_toArray, List.getElem_cons_zero, List.getElem_cons_succ, List.setIfInBounds_toArray, List.set_cons_zero, List.set_cons_succ]
          refine wpAnyH_take (i := 14) (v := ?v21x14) rfl (by as_aux_lemma => kernel_rfl) (by as_aux_lemma => kernel_rfl) (by as_aux_lemma => kernel_rfl) (fun _ _ _ h => h) (Or.inl ⟨by rfl, ?hy21x14⟩) (by assumption) ?rest21x14
          case hy21x14 => intro w hSw; go_simp <;> with_reducible rfl
          simp only [Act.put, List.getElem_toArray, List.getElem_cons_zero, List.getElem_cons_succ, List.setIfInBounds_toArray, List.set_cons_zero, List.set_cons_succ]
          refine wpAnyH_take (i := 15) (v := (.agg C)) rfl (by as_aux_lemma => kernel_rfl) (by as_aux_lemma => kernel_rfl) (by as_aux_lemma => kernel_rfl) (fun _ _ _ h => h) (Or.inl ⟨by rfl, ?hy22x15⟩) (by assumption) ?rest22x15
          case hy22x15 => intro w hSw; exact run_loadA rfl rfl (unhide HC _ (unhide HG _ hSw).2.2) Try.underlying26 (by rw [sC]; exact Try.isize26) rfl
          simp only [Act.put, List.getElem_toArray, List.getElem_cons_zero, List.getElem_cons_succ, List.setIfInBounds_toArray, List.set_cons_zero, List.set_cons_succ]
          refine wpAnyH_take (i := 18) (v := (.agg C)) rfl (by as_aux_lemma => kernel_rfl) (by as_aux_lemma => kernel_rfl) (by as_aux_lemma => kernel_rfl) (fun _ _ _ h => h) (Or.inl ⟨by rfl, ?hy23x18⟩) (by assumption) ?rest23x18
          case hy23x18 => intro w hSw; exact run_loadA rfl rfl (unhide HC _ (unhide HG _ hSw).2.2) Try.underlying26 (by rw [sC]; exact Try.isize26) rfl
          simp only [Act.put, List.getElem_toArray, List.getElem_cons_zero, List.getElem_cons_succ, List.setIfInBounds_toArray, List.set_cons_zero, List.set_cons_succ]
          refine wpAnyH_ready (rs := [16]) (by as_aux_lemma => kernel_rfl) (by simp) ?_
          refine AllReadyH.cons rfl (fun K hK => ?_) AllReadyH.nil
          go_simp
          refine (grew_on (by assumption) (unhide HFC _)).mono ?_
          rintro e wq ⟨rfl, hb1⟩
          refine hK _ _ hb1 ?_
          clear hK hHeld
          intro hHeld
          refine wpAnyH_ready (rs := [17]) (by as_aux_lemma => kernel_rfl) (by simp) ?_
          refine AllReadyH.cons rfl (fun K hK => ?_) AllReadyH.nil
          go_simp
          refine (grew_on (by assumption) (unhide HBK _)).mono ?_
          rintro e wq ⟨rfl, hb1⟩
          refine hK _ _ hb1 ?_
          clear hK hHeld
          intro hHeld
          refine wpAnyH_take (i := 19) (v := (.bool true)) rfl (by as_aux_lemma => kernel_rfl) (by as_aux_lemma => kernel_rfl) (by as_aux_lemma => kernel_rfl) (fun _ _ _ h => h) (Or.inl ⟨by rfl, ?hy24x19⟩) (by assumption) ?rest24x19
          case hy24x19 => intro w hSw; have hE := (unhide HEC); go_simp <;> with_reducible rfl
          simp only [Act.put, List.getElem_toArray, List.getElem_cons_zero, List.getElem_cons_succ, List.setIfInBounds_toArray, List.set_cons_zero, List.set_cons_succ]
          refine wpAnyH_take (i := 20) (v := (.bool true)) rfl (by as_aux_lemma => kernel_rfl) (by as_aux_lemma => kernel_rfl) (by as_aux_lemma => kernel_rfl) (fun _ _ _ h => h) (Or.inl ⟨by rfl, ?hy25x20⟩) (by assumption) ?rest25x20
          case hy25x20 => intro w hSw; go_simp <;> with_reducible rfl
          simp only [Act.put, List.getElem_toArray, List.getElem_cons_zero, List.getElem_cons_succ, List.setIfInBounds_toArray, List.set_cons_zero, List.set_cons_succ]
          refine wpAnyH_take (i := 21) (v := ?v26x21) rfl (by as_aux_lemma => kernel_rfl) (by as_aux_lemma => kernel_rfl) (by as_aux_lemma => kernel_rfl) (fun _ _ _ h => h) (Or.inl ⟨by rfl, ?hy26x21⟩) (by assumption) ?rest26x21
          case hy26x21 => intro w hSw; go_simp <;> with_reducible rfl
          simp only [Act.put, List.getElem_toArray, List.getElem_cons_zero, List.getElem_cons_succ, List.setIfInBounds_toArray, List.set_cons_zero, List.set_cons_succ]
          refine wpAnyH_done (by as_aux_lemma => kernel_rfl) ?_ _
          go_wp2
          go_ret
          exact ⟨rfl, (unhide HW).trans ((unhide HG _ hb1).2.2.mono (unhide HW).size)⟩
    · obtain ⟨hpe, hlx⟩ := hlx
      by_cases hpq : (bl (a0, a1)).getD m 0 < (bl (b0, b1)).getD m 0
      · rw [unhide HLX, if_pos hpq] at hlx
        subst hlx
        have HQ := hide heq
        have HM : Hid (m < 12) := hm
        clear heq HLX
        go_wp2_with fail
        go_loopw [9, 15] (fun o t wr => ∃ n : Nat, n ≤ m ∧ o = .int .i64 0 ∧ t = .int .i64 n ∧ Below wc.heap.size wc wr) (fun _ t _ => 12 - (intOf t).toNat)
        case atStart => exact ⟨0, by omega, rfl, rfl, Below.refl _ _⟩
        case round =>
          obtain ⟨n, hn, rfl, rfl, hbr⟩ := hrel
          have HR := hide hbr
          have hlt : n < 12 := by have := unhide HM; omega
          by_cases hnm : n < m
          · obtain ⟨zg, zh, _⟩ := unhide HG wr hbr
            obtain ⟨p, hp⟩ : ∃ p, (bl (a0, a1)).getD n 0 = p := ⟨_, rfl⟩
            have c1 : wr.cell? ⟨g, n, none⟩ = some (.int .u8 p) := by rw [cell_at zg, unhide HAA n hlt, hp]
            have c2 : wr.cell? ⟨h, n, none⟩ = some (.int .u8 p) := by rw [cell_at zh, unhide HAB n hlt, ← unhide HQ n hnm, hp]
            clear zg zh hp hbr
            go_wp2_with fail
            refine wp_region_held_drew (S := fun x => x.cell? ⟨g, n, none⟩ = some (.int .u8 p) ∧ x.cell? ⟨h, n, none⟩ = some (.int .u8 p)) (by kernel_rfl) ⟨c1, c2⟩ (fun hHeld => ?_)
            refine wpAnyH_take (i := 0) (v := ?v27x0) rfl (by as_aux_lemma => kernel_rfl) (by as_aux_lemma => kernel_rfl) (by as_aux_lemma => kernel_rfl) (fun _ _ _ h => h) (Or.inl ⟨by rfl, ?hy27x0⟩) (by assumption) ?rest27x0
            case hy27x0 => intro w hSw; obtain ⟨s1, s2⟩ := hSw; go_simp <;> with_reducible rfl
            simp only [Act.put, List.getElem_toArray, List.getElem_cons_zero, List.setIfInBounds_toArray, List.set_cons_zero, List.set_cons_succ]
            refine wpAnyH_take (i := 1) (v := ?v28x1) rfl (by as_aux_lemma => kernel_rfl) (by as_aux_lemma => kernel_rfl) (by as_aux_lemma => kernel_rfl) (fun _ _ _ h => h) (Or.inl ⟨by rfl, ?hy28x1⟩) (by assumption) ?rest28x1
            case hy28x1 => intro w hSw; obtain ⟨s1, s2⟩ := hSw; go_simp <;> with_reducible rfl
            simp only [Act.put, List.getElem_toArray, List.getElem_cons_zero, List.getElem_cons_succ, List.setIfInBounds_toArray, List.set_cons_zero, List.set_cons_succ]
            refine wpAnyH_take (i := 2) (v := (.int .u8 p)) rfl (by as_aux_lemma => kernel_rfl) (by as_aux_lemma => kernel_rfl) (by as_aux_lemma => kernel_rfl) (fun _ _ _ h => h) (Or.inl ⟨by rfl, ?hy29x2⟩) (by assumption) ?rest29x2
            case hy29x2 => intro w hSw; obtain ⟨s1, s2⟩ := hSw; go_simp <;> with_reducible rfl
            simp only [Act.put, List.getElem_toArray, List.getElem_cons_zero, List.getElem_cons_succ, List.setIfInBounds_toArray, List.set_cons_zero, List.set_cons_succ]
            refine wpAnyH_take (i := 3) (v := ?v30x3) rfl (by as_aux_lemma => kernel_rfl) (by as_aux_lemma => kernel_rfl) (by as_aux_lemma => kernel_rfl) (fun _ _ _ h => h) (Or.inl ⟨by rfl, ?hy30x3⟩) (by assumption) ?rest30x3
            case hy30x3 => intro w hSw; obtain ⟨s1, s2⟩ := hSw; go_simp <;> with_reducible rfl
            simp only [Act.put, List.getElem_toArray, List.getElem_cons_zero, List.getElem_cons_succ, List.setIfInBounds_toArray, List.set_cons_zero, List.set_cons_succ]
            refine wpAnyH_take (i := 4) (v := ?v31x4) rfl (by as_aux_lemma => kernel_rfl) (by as_aux_lemma => kernel_rfl) (by as_aux_lemma => kernel_rfl) (fun _ _ _ h => h) (Or.inl ⟨by rfl, ?hy31x4⟩) (by assumption) ?rest31x4
            case hy31x4 => intro w hSw; obtain ⟨s1, s2⟩ := hSw; go_simp <;> with_reducible rfl
            simp only [Act.put, List.getElem_toArray, List.getElem_cons_zero, List.getElem_cons_succ, List.setIfInBounds_toArray, List.set_cons_zero, List.set_cons_succ]
            refine wpAnyH_take (i := 5) (v := (.int .u8 p)) rfl (by as_aux_lemma => kernel_rfl) (by as_aux_lemma => kernel_rfl) (by as_aux_lemma => kernel_rfl) (fun _ _ _ h => h) (Or.inl ⟨by rfl, ?hy32x5⟩) (by assumption) ?rest32x5
            case hy32x5 => intro w hSw; obtain ⟨s1, s2⟩ := hSw; go_simp <;> with_reducible rfl
            simp only [Act.put, List.getElem_toArray, List.getElem_cons_zero, List.getElem_cons_succ, List.setIfInBounds_toArray, List.set_cons_zero, List.set_cons_succ]
            refine wpAnyH_take (i := 6) (v := (.bool false)) rfl (by as_aux_lemma => kernel_rfl) (by as_aux_lemma => kernel_rfl) (by as_aux_lemma => kernel_rfl) (fun _ _ _ h => h) (Or.inl ⟨by rfl, ?hy33x6⟩) (by assumption) ?rest33x6
            case hy33x6 => intro w hSw; obtain ⟨s1, s2⟩ := hSw; go_simp <;> with_reducible rfl
            simp only [Act.put, List.getElem_toArray, List.getElem_cons_zero, List.getElem_cons_succ, List.setIfInBounds_toArray, List.set_cons_zero, List.set_cons_succ]
            refine wpAnyH_done (by as_aux_lemma => kernel_rfl) ?_ _
            go_wp2
            go_roundw
            case rel => exact ⟨n + 1, by omega, rfl, by go_num, (unhide HR).drew⟩
            case measure => simp [intOf]; omega
          · obtain rfl : n = m := by omega
            obtain ⟨zg, zh, _⟩ := unhide HG wr hbr
            obtain ⟨p, hp⟩ : ∃ p, (bl (a0, a1)).getD n 0 = p := ⟨_, rfl⟩
            obtain ⟨q, hq⟩ : ∃ p, (bl (b0, b1)).getD n 0 = p := ⟨_, rfl⟩
            have c1 : wr.cell? ⟨g, n, none⟩ = some (.int .u8 p) := by rw [cell_at zg, unhide HAA n hlt, hp]
            have c2 : wr.cell? ⟨h, n, none⟩ = some (.int .u8 q) := by rw [cell_at zh, unhide HAB n hlt, hq]
            rw [hp, hq] at hpq hpe
            have hne : (p == q) = false := beq_eq_false_iff_ne.2 (by omega)
            have hcm : decide (p < q) = true := by simp; omega
            clear zg zh hp hq hbr
            go_wp2_with fail
            refine wp_region_held_drew (S := fun x => x.cell? ⟨g, n, none⟩ = some (.int .u8 p) ∧ x.cell? ⟨h, n, none⟩ = some (.int .u8 q)) (by kernel_rfl) ⟨c1, c2⟩ (fun hHeld => ?_)
            refine wpAnyH_take (i := 0) (v := ?v34x0) rfl (by as_aux_lemma => kernel_rfl) (by as_aux_lemma => kernel_rfl) (by as_aux_lemma => kernel_rfl) (fun _ _ _ h => h) (Or.inl ⟨by rfl, ?hy34x0⟩) (by assumption) ?rest34x0
            case hy34x0 => intro w hSw; obtain ⟨s1, s2⟩ := hSw; go_simp <;> with_reducible rfl
            simp only [Act.put, List.getElem_toArray, List.getElem_cons_zero, List.setIfInBounds_toArray, List.set_cons_zero, List.set_cons_succ]
            refine wpAnyH_take (i := 1) (v := ?v35x1) rfl (by as_aux_lemma => kernel_rfl) (by as_aux_lemma => kernel_rfl) (by as_aux_lemma => kernel_rfl) (fun _ _ _ h => h) (Or.inl ⟨by rfl, ?hy35x1⟩) (by assumption) ?rest35x1
            case hy35x1 => intro w hSw; obtain ⟨s1, s2⟩ := hSw; go_simp <;> with_reducible rfl
            simp only [Act.put, List.getElem_toArray, List.getElem_cons_zero, List.getElem_cons_succ, List.setIfInBounds_toArray, List.set_cons_zero, List.set_cons_succ]
            refine wpAnyH_take (i := 2) (v := (.int .u8 p)) rfl (by as_aux_lemma => kernel_rfl) (by as_aux_lemma => kernel_rfl) (by as_aux_lemma => kernel_rfl) (fun _ _ _ h => h) (Or.inl ⟨by rfl, ?hy36x2⟩) (by assumption) ?rest36x2
            case hy36x2 => intro w hSw; obtain ⟨s1, s2⟩ := hSw; go_simp <;> with_reducible rfl
            simp only [Act.put, List.getElem_toArray, List.getElem_cons_zero, List.getElem_cons_succ, List.setIfInBounds_toArray, List.set_cons_zero, List.set_cons_succ]
            refine wpAnyH_take (i := 3) (v := ?v37x3) rfl (by as_aux_lemma => kernel_rfl) (by as_aux_lemma => kernel_rfl) (by as_aux_lemma => kernel_rfl) (fun _ _ _ h => h) (Or.inl ⟨by rfl, ?hy37x3⟩) (by assumption) ?rest37x3
            case hy37x3 => intro w hSw; obtain ⟨s1, s2⟩ := hSw; go_simp <;> with_reducible rfl
            simp only [Act.put, List.getElem_toArray, List.getElem_cons_zero, List.getElem_cons_succ, List.setIfInBounds_toArray, List.set_cons_zero, List.set_cons_succ]
            refine wpAnyH_take (i := 4) (v := ?v38x4) rfl (by as_aux_lemma => kernel_rfl) (by as_aux_lemma => kernel_rfl) (by as_aux_lemma => kernel_rfl) (fun _ _ _ h => h) (Or.inl ⟨by rfl, ?hy38x4⟩) (by assumption) ?rest38x4
            case hy38x4 => intro w hSw; obtain ⟨s1, s2⟩ := hSw; go_simp <;> with_reducible rfl
            simp only [Act.put, List.getElem_toArray, List.getElem_cons_zero, List.getElem_cons_succ, List.setIfInBounds_toArray, List.set_cons_zero, List.set_cons_succ]
            refine wpAnyH_take (i := 5) (v := (.int .u8 q)) rfl (by as_aux_lemma => kernel_rfl) (by as_aux_lemma => kernel_rfl) (by as_aux_lemma => kernel_rfl) (fun _ _ _ h => h) (Or.inl ⟨by rfl, ?hy39x5⟩) (by assumption) ?rest39x5
            case hy39x5 => intro w hSw; obtain ⟨s1, s2⟩ := hSw; go_simp <;> with_reducible rfl
            simp only [Act.put, List.getElem_toArray, List.getElem_cons_zero, List.getElem_cons_succ, List.setIfInBounds_toArray, List.set_cons_zero, List.set_cons_succ]
            refine wpAnyH_take (i := 6) (v := (.bool true)) rfl (by as_aux_lemma => kernel_rfl) (by as_aux_lemma => kernel_rfl) (by as_aux_lemma => kernel_rfl) (fun _ _ _ h => h) (Or.inl ⟨by rfl, ?hy40x6⟩) (by assumption) ?rest40x6
            case hy40x6 => intro w hSw; obtain ⟨s1, s2⟩ := hSw; go_simp <;> with_reducible rfl
            simp only [Act.put, List.getElem_toArray, List.getElem_cons_zero, List.getElem_cons_succ, List.setIfInBounds_toArray, List.set_cons_zero, List.set_cons_succ]
            refine wpAnyH_done (by as_aux_lemma => kernel_rfl) ?_ _
            go_wp2_with fail
            refine wp_region_held_drew (S := fun x => x.cell? ⟨g, n, none⟩ = some (.int .u8 p) ∧ x.cell? ⟨h, n, none⟩ = some (.int .u8 q)) (by kernel_rfl) ⟨c1, c2⟩ (fun hHeld => ?_)
            refine wpAnyH_take (i := 0) (v := ?v41x0) rfl (by as_aux_lemma => kernel_rfl) (by as_aux_lemma => kernel_rfl) (by as_aux_lemma => kernel_rfl) (fun _ _ _ h => h) (Or.inl ⟨by rfl, ?hy41x0⟩) (by assumption) ?rest41x0
            case hy41x0 => intro w hSw; obtain ⟨s1, s2⟩ := hSw; go_simp <;> with_reducible rfl
            simp only [Act.put, List.getElem_toArray, List.getElem_cons_zero, List.setIfInBounds_toArray, List.set_cons_zero, List.set_cons_succ]
            refine wpAnyH_take (i := 1) (v := ?v42x1) rfl (by as_aux_lemma => kernel_rfl) (by as_aux_lemma => kernel_rfl) (by as_aux_lemma => kernel_rfl) (fun _ _ _ h => h) (Or.inl ⟨by rfl, ?hy42x1⟩) (by assumption) ?rest42x1
            case hy42x1 => intro w hSw; obtain ⟨s1, s2⟩ := hSw; go_simp <;> with_reducible rfl
            simp only [Act.put, List.getElem_toArray, List.getElem_cons_zero, List.getElem_cons_succ, List.setIfInBounds_toArray, List.set_cons_zero, List.set_cons_succ]
            refine wpAnyH_take (i := 2) (v := (.int .u8 p)) rfl (by as_aux_lemma => kernel_rfl) (by as_aux_lemma => kernel_rfl) (by as_aux_lemma => kernel_rfl) (fun _ _ _ h => h) (Or.inl ⟨by rfl, ?hy43x2⟩) (by assumption) ?rest43x2
            case hy43x2 => intro w hSw; obtain ⟨s1, s2⟩ := hSw; go_simp <;> with_reducible rfl
            simp only [Act.put, List.getElem_toArray, List.getElem_cons_zero, List.getElem_cons_succ, List.setIfInBounds_toArray, List.set_cons_zero, List.set_cons_succ]
            refine wpAnyH_take (i := 3) (v := ?v44x3) rfl (by as_aux_lemma => kernel_rfl) (by as_aux_lemma => kernel_rfl) (by as_aux_lemma => kernel_rfl) (fun _ _ _ h => h) (Or.inl ⟨by rfl, ?hy44x3⟩) (by assumption) ?rest44x3
            case hy44x3 => intro w hSw; obtain ⟨s1, s2⟩ := hSw; go_simp <;> with_reducible rfl
            simp only [Act.put, List.getElem_toArray, List.getElem_cons_zero, List.getElem_cons_succ, List.setIfInBounds_toArray, List.set_cons_zero, List.set_cons_succ]
            refine wpAnyH_take (i := 4) (v := ?v45x4) rfl (by as_aux_lemma => kernel_rfl) (by as_aux_lemma => kernel_rfl) (by as_aux_lemma => kernel_rfl) (fun _ _ _ h => h) (Or.inl ⟨by rfl, ?hy45x4⟩) (by assumption) ?rest45x4
            case hy45x4 => intro w hSw; obtain ⟨s1, s2⟩ := hSw; go_simp <;> with_reducible rfl
            simp only [Act.put, List.getElem_toArray, List.getElem_cons_zero, List.getElem_cons_succ, List.setIfInBounds_toArray, List.set_cons_zero, List.set_cons_succ]
            refine wpAnyH_take (i := 5) (v := (.int .u8 q)) rfl (by as_aux_lemma => kernel_rfl) (by as_aux_lemma => kernel_rfl) (by as_aux_lemma => kernel_rfl) (fun _ _ _ h => h) (Or.inl ⟨by rfl, ?hy46x5⟩) (by assumption) ?rest46x5
            case hy46x5 => intro w hSw; obtain ⟨s1, s2⟩ := hSw; go_simp <;> with_reducible rfl
            simp only [Act.put, List.getElem_toArray, List.getElem_cons_zero, List.getElem_cons_succ, List.setIfInBounds_toArray, List.set_cons_zero, List.set_cons_succ]
            refine wpAnyH_take (i := 6) (v := (.bool true)) rfl (by as_aux_lemma => kernel_rfl) (by as_aux_lemma => kernel_rfl) (by as_aux_lemma => kernel_rfl) (fun _ _ _ h => h) (Or.inl ⟨by rfl, ?hy47x6⟩) (by assumption) ?rest47x6
            case hy47x6 => intro w hSw; obtain ⟨s1, s2⟩ := hSw; go_simp <;> with_reducible rfl
            simp only [Act.put, List.getElem_toArray, List.getElem_cons_zero, List.getElem_cons_succ, List.setIfInBounds_toArray, List.set_cons_zero, List.set_cons_succ]
            refine wpAnyH_done (by as_aux_lemma => kernel_rfl) ?_ _
            clear hne hcm
            go_wp2_with fail
            refine wp_region_held_drew (S := fun x => Below wc.heap.size wc x) (by kernel_rfl) (unhide HR).drew.drew.drew (fun hHeld => ?_)
            refine wpAnyH_ready (rs := [0]) (by as_aux_lemma => kernel_rfl) (by simp) ?_
            refine AllReadyH.cons rfl (fun K hK => ?_) AllReadyH.nil
            go_simp
            refine (live_on (by assumption)).mono ?_
            rintro e wq ⟨rfl, hb1⟩
            refine hK _ _ hb1 ?_
            clear hK hHeld
            intro hHeld
            refine wpAnyH_take (i := 1) (v := ?v48x1) rfl (by as_aux_lemma => kernel_rfl) (by as_aux_lemma => kernel_rfl) (by as_aux_lemma => kernel_rfl) (fun _ _ _ h => h) (Or.inl ⟨by rfl, ?hy48x1⟩) (by assumption) ?rest48x1
            case hy48x1 => intro w hSw; go_simp <;> with_reducible rfl
            simp only [Act.put, List.getElem_toArray, List.getElem_cons_zero, List.getElem_cons_succ, List.setIfInBounds_toArray, List.set_cons_zero, List.set_cons_succ]
            refine wpAnyH_take (i := 2) (v := ?v49x2) rfl (by as_aux_lemma => kernel_rfl) (by as_aux_lemma => kernel_rfl) (by as_aux_lemma => kernel_rfl) (fun _ _ _ h => h) (Or.inl ⟨by rfl, ?hy49x2⟩) (by assumption) ?rest49x2
            case hy49x2 => intro w hSw; go_simp <;> with_reducible rfl
            simp only [Act.put, List.getElem_toArray, List.getElem_cons_zero, List.getElem_cons_succ, List.setIfInBounds_toArray, List.set_cons_zero, List.set_cons_succ]
            refine wpAnyH_take (i := 3) (v := (.agg #[.int .i32 a0, .int .i64 a1])) rfl (by as_aux_lemma => kernel_rfl) (by as_aux_lemma => kernel_rfl) (by as_aux_lemma => kernel_rfl) (fun _ _ _ h => h) (Or.inl ⟨by rfl, ?hy50x3⟩) (by assumption) ?rest50x3
            case hy50x3 => intro w hSw; obtain ⟨s1, s2⟩ := unhide HA _ (unhide HG _ hSw).2.2; go_simp <;> with_reducible rfl
            simp only [Act.put, List.getElem_toArray, List.getElem_cons_zero, List.getElem_cons_succ, List.setIfInBounds_toArray, List.set_cons_zero, List.set_cons_succ]
            refine wpAnyH_take (i := 4) (v := (.agg #[.int .i32 b0, .int .i64 b1])) rfl (by as_aux_lemma => kernel_rfl) (by as_aux_lemma => kernel_rfl) (by as_aux_lemma => kernel_rfl) (fun _ _ _ h => h) (Or.inl ⟨by rfl, ?hy51x4⟩) (by assumption) ?rest51x4
            case hy51x4 => intro w hSw; obtain ⟨s1, s2⟩ := unhide HB _ (unhide HG _ hSw).2.2; go_simp <;> with_reducible rfl
            simp only [Act.put, List.getElem_toArray, List.getElem_cons_zero, List.getElem_cons_succ, List.setIfInBounds_toArray, List.set_cons_zero, List.set_cons_succ]
            refine wpAnyH_ready (rs := [5]) (by as_aux_lemma => kernel_rfl) (by simp) ?_
            refine AllReadyH.cons rfl (fun K hK => ?_) AllReadyH.nil
            go_simp
            refine (grew_on (by assumption) (unhide HCM _)).mono ?_
            rintro e wq ⟨rfl, hb1⟩
            refine hK _ _ hb1 ?_
            clear hK hHeld
            intro hHeld
            refine wpAnyH_take (i := 6) (v := (.bool true)) rfl (by as_aux_lemma => kernel_rfl) (by as_aux_lemma => kernel_rfl) (by as_aux_lemma => kernel_rfl) (fun _ _ _ h => h) (Or.inl ⟨by rfl, ?hy52x6⟩) (by assumption) ?rest52x6
            case hy52x6 => intro w hSw; go_simp <;> with_reducible rfl
            simp only [Act.put, List.getElem_toArray, List.getElem_cons_zero, List.getElem_cons_succ, List.setIfInBounds_toArray, List.set_cons_zero, List.set_cons_succ]
            refine wpAnyH_take (i := 7) (v := (.bool true)) rfl (by as_aux_lemma => kernel_rfl) (by as_aux_lemma => kernel_rfl) (by as_aux_lemma => kernel_rfl) (fun _ _ _ h => h) (Or.inl ⟨by rfl, ?hy53x7⟩) (by assumption) ?rest53x7
            case hy53x7 => intro w hSw; go_simp <;> with_reducible rfl
            simp only [Act.put, List.getElem_toArray, List.getElem_cons_zero, List.getElem_cons_succ, List.setIfInBounds_toArray, List.set_cons_zero, List.set_cons_succ]
            refine wpAnyH_take (i := 8) (v := ?v54x8) rfl (by as_aux_lemma => kernel_rfl) (by as_aux_lemma => kernel_rfl) (by as_aux_lemma => kernel_rfl) (fun _ _ _ h => h) (Or.inl ⟨by rfl, ?hy54x8⟩) (by assumption) ?rest54x8
            case hy54x8 => intro w hSw; go_simp <;> with_reducible rfl
            simp only [Act.put, List.getElem_toArray, List.getElem_cons_zero, List.getElem_cons_succ, List.setIfInBounds_toArray, List.set_cons_zero, List.set_cons_succ]
            refine wpAnyH_take (i := 9) (v := (.agg A)) rfl (by as_aux_lemma => kernel_rfl) (by as_aux_lemma => kernel_rfl) (by as_aux_lemma => kernel_rfl) (fun _ _ _ h => h) (Or.inl ⟨by rfl, ?hy55x9⟩) (by assumption) ?rest55x9
            case hy55x9 => intro w hSw; exact run_loadA rfl rfl (unhide HG _ hSw).1 Try.underlying26 (by rw [sA]; exact Try.isize26) rfl
            simp only [Act.put, List.getElem_toArray, List.getElem_cons_zero, List.getElem_cons_succ, List.setIfInBounds_toArray, List.set_cons_zero, List.set_cons_succ]
            refine wpAnyH_take (i := 11) (v := (.agg #[.int .i32 a0, .int .i64 a1])) rfl (by as_aux_lemma => kernel_rfl) (by as_aux_lemma => kernel_rfl) (by as_aux_lemma => kernel_rfl) (fun _ _ _ h => h) (Or.inl ⟨by rfl, ?hy56x11⟩) (by assumption) ?rest56x11
            case hy56x11 => intro w hSw; obtain ⟨s1, s2⟩ := unhide HA _ (unhide HG _ hSw).2.2; go_simp <;> with_reducible rfl
            simp only [Act.put, List.getElem_toArray, List.getElem_cons_zero, List.getElem_cons_succ, List.setIfInBounds_toArray, List.set_cons_zero, List.set_cons_succ]
            refine wpAnyH_ready (rs := [10]) (by as_aux_lemma => kernel_rfl) (by simp) ?_
            refine AllReadyH.cons rfl (fun K hK => ?_) AllReadyH.nil
            go_simp
            refine (grew_on (by assumption) (unhide HFA _)).mono ?_
            rintro e wq ⟨rfl, hb1⟩
            refine hK _ _ hb1 ?_
            clear hK hHeld
            intro hHeld
            refine wpAnyH_take (i := 12) (v := (.bool true)) rfl (by as_aux_lemma => kernel_rfl) (by as_aux_lemma => kernel_rfl) (by as_aux_lemma => kernel_rfl) (fun _ _ _ h => h) (Or.inl ⟨by rfl, ?hy57x12⟩) (by assumption) ?rest57x12
            case hy57x12 => intro w hSw; have hE := (unhide HEA); go_simp <;> with_reducible rfl
            simp only [Act.put, List.getElem_toArray, List.getElem_cons_zero, List.getElem_cons_succ, List.setIfInBounds_toArray, List.set_cons_zero, List.set_cons_succ]
            refine wpAnyH_take (i := 13) (v := (.bool true)) rfl (by as_aux_lemma => kernel_rfl) (by as_aux_lemma => kernel_rfl) (by as_aux_lemma => kernel_rfl) (fun _ _ _ h => h) (Or.inl ⟨by rfl, ?hy58x13⟩) (by assumption) ?rest58x13
            case hy58x13 => intro w hSw; go_simp <;> with_reducible rfl
            simp only [Act.put, List.getElem_toArray, List.getElem_cons_zero, List.getElem_cons_succ, List.setIfInBounds_toArray, List.set_cons_zero, List.set_cons_succ]
            refine wpAnyH_take (i := 14) (v := ?v59x14) rfl (by as_aux_lemma => kernel_rfl) (by as_aux_lemma => kernel_rfl) (by as_aux_lemma => kernel_rfl) (fun _ _ _ h => h) (Or.inl ⟨by rfl, ?hy59x14⟩) (by assumption) ?rest59x14
            case hy59x14 => intro w hSw; go_simp <;> with_reducible rfl
            simp only [Act.put, List.getElem_toArray, List.getElem_cons_zero, List.getElem_cons_succ, List.setIfInBounds_toArray, List.set_cons_zero, List.set_cons_succ]
            refine wpAnyH_take (i := 15) (v := (.agg C)) rfl (by as_aux_lemma => kernel_rfl) (by as_aux_lemma => kernel_rfl) (by as_aux_lemma => kernel_rfl) (fun _ _ _ h => h) (Or.inl ⟨by rfl, ?hy60x15⟩) (by assumption) ?rest60x15
            case hy60x15 => intro w hSw; exact run_loadA rfl rfl (unhide HC _ (unhide HG _ hSw).2.2) Try.underlying26 (by rw [sC]; exact Try.isize26) rfl
            simp only [Act.put, List.getElem_toArray, List.getElem_cons_zero, List.getElem_cons_succ, List.setIfInBounds_toArray, List.set_cons_zero, List.set_cons_succ]
            refine wpAnyH_take (i := 18) (v := (.agg C)) rfl (by as_aux_lemma => kernel_rfl) (by as_aux_lemma => kernel_rfl) (by as_aux_lemma => kernel_rfl) (fun _ _ _ h => h) (Or.inl ⟨by rfl, ?hy61x18⟩) (by assumption) ?rest61x18
            case hy61x18 => intro w hSw; exact run_loadA rfl rfl (unhide HC _ (unhide HG _ hSw).2.2) Try.underlying26 (by rw [sC]; exact Try.isize26) rfl
            simp only [Act.put, List.getElem_toArray, List.getElem_cons_zero, List.getElem_cons_succ, List.setIfInBounds_toArray, List.set_cons_zero, List.set_cons_succ]
            refine wpAnyH_ready (rs := [16]) (by as_aux_lemma => kernel_rfl) (by simp) ?_
            refine AllReadyH.cons rfl (fun K hK => ?_) AllReadyH.nil
            go_simp
            refine (grew_on (by assumption) (unhide HFC _)).mono ?_
            rintro e wq ⟨rfl, hb1⟩
            refine hK _ _ hb1 ?_
            clear hK hHeld
            intro hHeld
            refine wpAnyH_ready (rs := [17]) (by as_aux_lemma => kernel_rfl) (by simp) ?_
            refine AllReadyH.cons rfl (fun K hK => ?_) AllReadyH.nil
            go_simp
            refine (grew_on (by assumption) (unhide HBK _)).mono ?_
            rintro e wq ⟨rfl, hb1⟩
            refine hK _ _ hb1 ?_
            clear hK hHeld
            intro hHeld
            refine wpAnyH_take (i := 19) (v := (.bool true)) rfl (by as_aux_lemma => kernel_rfl) (by as_aux_lemma => kernel_rfl) (by as_aux_lemma => kernel_rfl) (fun _ _ _ h => h) (Or.inl ⟨by rfl, ?hy62x19⟩) (by assumption) ?rest62x19
            case hy62x19 => intro w hSw; have hE := (unhide HEC); go_simp <;> with_reducible rfl
            simp only [Act.put, List.getElem_toArray, List.getElem_cons_zero, List.getElem_cons_succ, List.setIfInBounds_toArray, List.set_cons_zero, List.set_cons_succ]
            refine wpAnyH_take (i := 20) (v := (.bool true)) rfl (by as_aux_lemma => kernel_rfl) (by as_aux_lemma => kernel_rfl) (by as_aux_lemma => kernel_rfl) (fun _ _ _ h => h) (Or.inl ⟨by rfl, ?hy63x20⟩) (by assumption) ?rest63x20
            case hy63x20 => intro w hSw; go_simp <;> with_reducible rfl
            simp only [Act.put, List.getElem_toArray, List.getElem_cons_zero, List.getElem_cons_succ, List.setIfInBounds_toArray, List.set_cons_zero, List.set_cons_succ]
            refine wpAnyH_take (i := 21) (v := ?v64x21) rfl (by as_aux_lemma => kernel_rfl) (by as_aux_lemma => kernel_rfl) (by as_aux_lemma => kernel_rfl) (fun _ _ _ h => h) (Or.inl ⟨by rfl, ?hy64x21⟩) (by assumption) ?rest64x21
            case hy64x21 => intro w hSw; go_simp <;> with_reducible rfl
            simp only [Act.put, List.getElem_toArray, List.getElem_cons_zero, List.getElem_cons_succ, List.setIfInBounds_toArray, List.set_cons_zero, List.set_cons_succ]
            refine wpAnyH_done (by as_aux_lemma => kernel_rfl) ?_ _
            go_wp2
            go_ret
            exact ⟨rfl, (unhide HW).trans ((unhide HG _ hb1).2.2.mono (unhide HW).size)⟩
      · rw [unhide HLX, if_neg hpq] at hlx
        subst hlx
        have HQ := hide heq
        have HM : Hid (m < 12) := hm
        clear heq HLX
        go_wp2_with fail
        go_loopw [9, 15] (fun o t wr => ∃ n : Nat, n ≤ m ∧ o = .int .i64 0 ∧ t = .int .i64 n ∧ Below wc.heap.size wc wr) (fun _ t _ => 12 - (intOf t).toNat)
        case atStart => exact ⟨0, by omega, rfl, rfl, Below.refl _ _⟩
        case round =>
          obtain ⟨n, hn, rfl, rfl, hbr⟩ := hrel
          have HR := hide hbr
          have hlt : n < 12 := by have := unhide HM; omega
          by_cases hnm : n < m
          · obtain ⟨zg, zh, _⟩ := unhide HG wr hbr
            obtain ⟨p, hp⟩ : ∃ p, (bl (a0, a1)).getD n 0 = p := ⟨_, rfl⟩
            have c1 : wr.cell? ⟨g, n, none⟩ = some (.int .u8 p) := by rw [cell_at zg, unhide HAA n hlt, hp]
            have c2 : wr.cell? ⟨h, n, none⟩ = some (.int .u8 p) := by rw [cell_at zh, unhide HAB n hlt, ← unhide HQ n hnm, hp]
            clear zg zh hp hbr
            go_wp2_with fail
            refine wp_region_held_drew (S := fun x => x.cell? ⟨g, n, none⟩ = some (.int .u8 p) ∧ x.cell? ⟨h, n, none⟩ = some (.int .u8 p)) (by kernel_rfl) ⟨c1, c2⟩ (fun hHeld => ?_)
            refine wpAnyH_take (i := 0) (v := ?v65x0) rfl (by as_aux_lemma => kernel_rfl) (by as_aux_lemma => kernel_rfl) (by as_aux_lemma => kernel_rfl) (fun _ _ _ h => h) (Or.inl ⟨by rfl, ?hy65x0⟩) (by assumption) ?rest65x0
            case hy65x0 => intro w hSw; obtain ⟨s1, s2⟩ := hSw; go_simp <;> with_reducible rfl
            simp only [Act.put, List.getElem_toArray, List.getElem_cons_zero, List.setIfInBounds_toArray, List.set_cons_zero, List.set_cons_succ]
            refine wpAnyH_take (i := 1) (v := ?v66x1) rfl (by as_aux_lemma => kernel_rfl) (by as_aux_lemma => kernel_rfl) (by as_aux_lemma => kernel_rfl) (fun _ _ _ h => h) (Or.inl ⟨by rfl, ?hy66x1⟩) (by assumption) ?rest66x1
            case hy66x1 => intro w hSw; obtain ⟨s1, s2⟩ := hSw; go_simp <;> with_reducible rfl
            simp only [Act.put, List.getElem_toArray, List.getElem_cons_zero, List.getElem_cons_succ, List.setIfInBounds_toArray, List.set_cons_zero, List.set_cons_succ]
            refine wpAnyH_take (i := 2) (v := (.int .u8 p)) rfl (by as_aux_lemma => kernel_rfl) (by as_aux_lemma => kernel_rfl) (by as_aux_lemma => kernel_rfl) (fun _ _ _ h => h) (Or.inl ⟨by rfl, ?hy67x2⟩) (by assumption) ?rest67x2
            case hy67x2 => intro w hSw; obtain ⟨s1, s2⟩ := hSw; go_simp <;> with_reducible rfl
            simp only [Act.put, List.getElem_toArray, List.getElem_cons_zero, List.getElem_cons_succ, List.setIfInBounds_toArray, List.set_cons_zero, List.set_cons_succ]
            refine wpAnyH_take (i := 3) (v := ?v68x3) rfl (by as_aux_lemma => kernel_rfl) (by as_aux_lemma => kernel_rfl) (by as_aux_lemma => kernel_rfl) (fun _ _ _ h => h) (Or.inl ⟨by rfl, ?hy68x3⟩) (by assumption) ?rest68x3
            case hy68x3 => intro w hSw; obtain ⟨s1, s2⟩ := hSw; go_simp <;> with_reducible rfl
            simp only [Act.put, List.getElem_toArray, List.getElem_cons_zero, List.getElem_cons_succ, List.setIfInBounds_toArray, List.set_cons_zero, List.set_cons_succ]
            refine wpAnyH_take (i := 4) (v := ?v69x4) rfl (by as_aux_lemma => kernel_rfl) (by as_aux_lemma => kernel_rfl) (by as_aux_lemma => kernel_rfl) (fun _ _ _ h => h) (Or.inl ⟨by rfl, ?hy69x4⟩) (by assumption) ?rest69x4
            case hy69x4 => intro w hSw; obtain ⟨s1, s2⟩ := hSw; go_simp <;> with_reducible rfl
            simp only [Act.put, List.getElem_toArray, List.getElem_cons_zero, List.getElem_cons_succ, List.setIfInBounds_toArray, List.set_cons_zero, List.set_cons_succ]
            refine wpAnyH_take (i := 5) (v := (.int .u8 p)) rfl (by as_aux_lemma => kernel_rfl) (by as_aux_lemma => kernel_rfl) (by as_aux_lemma => kernel_rfl) (fun _ _ _ h => h) (Or.inl ⟨by rfl, ?hy70x5⟩) (by assumption) ?rest70x5
            case hy70x5 => intro w hSw; obtain ⟨s1, s2⟩ := hSw; go_simp <;> with_reducible rfl
            simp only [Act.put, List.getElem_toArray, List.getElem_cons_zero, List.getElem_cons_succ, List.setIfInBounds_toArray, List.set_cons_zero, List.set_cons_succ]
            refine wpAnyH_take (i := 6) (v := (.bool false)) rfl (by as_aux_lemma => kernel_rfl) (by as_aux_lemma => kernel_rfl) (by as_aux_lemma => kernel_rfl) (fun _ _ _ h => h) (Or.inl ⟨by rfl, ?hy71x6⟩) (by assumption) ?rest71x6
            case hy71x6 => intro w hSw; obtain ⟨s1, s2⟩ := hSw; go_simp <;> with_reducible rfl
            simp only [Act.put, List.getElem_toArray, List.getElem_cons_zero, List.getElem_cons_succ, List.setIfInBounds_toArray, List.set_cons_zero, List.set_cons_succ]
            refine wpAnyH_done (by as_aux_lemma => kernel_rfl) ?_ _
            go_wp2
            go_roundw
            case rel => exact ⟨n + 1, by omega, rfl, by go_num, (unhide HR).drew⟩
            case measure => simp [intOf]; omega
          · obtain rfl : n = m := by omega
            obtain ⟨zg, zh, _⟩ := unhide HG wr hbr
            obtain ⟨p, hp⟩ : ∃ p, (bl (a0, a1)).getD n 0 = p := ⟨_, rfl⟩
            obtain ⟨q, hq⟩ : ∃ p, (bl (b0, b1)).getD n 0 = p := ⟨_, rfl⟩
            have c1 : wr.cell? ⟨g, n, none⟩ = some (.int .u8 p) := by rw [cell_at zg, unhide HAA n hlt, hp]
            have c2 : wr.cell? ⟨h, n, none⟩ = some (.int .u8 q) := by rw [cell_at zh, unhide HAB n hlt, hq]
            rw [hp, hq] at hpq hpe
            have hne : (p == q) = false := beq_eq_false_iff_ne.2 (by omega)
            have hcm : decide (p < q) = false := by simp; omega
            clear zg zh hp hq hbr
            go_wp2_with fail
            refine wp_region_held_drew (S := fun x => x.cell? ⟨g, n, none⟩ = some (.int .u8 p) ∧ x.cell? ⟨h, n, none⟩ = some (.int .u8 q)) (by kernel_rfl) ⟨c1, c2⟩ (fun hHeld => ?_)
            refine wpAnyH_take (i := 0) (v := ?v72x0) rfl (by as_aux_lemma => kernel_rfl) (by as_aux_lemma => kernel_rfl) (by as_aux_lemma => kernel_rfl) (fun _ _ _ h => h) (Or.inl ⟨by rfl, ?hy72x0⟩) (by assumption) ?rest72x0
            case hy72x0 => intro w hSw; obtain ⟨s1, s2⟩ := hSw; go_simp <;> with_reducible rfl
            simp only [Act.put, List.getElem_toArray, List.getElem_cons_zero, List.setIfInBounds_toArray, List.set_cons_zero, List.set_cons_succ]
            refine wpAnyH_take (i := 1) (v := ?v73x1) rfl (by as_aux_lemma => kernel_rfl) (by as_aux_lemma => kernel_rfl) (by as_aux_lemma => kernel_rfl) (fun _ _ _ h => h) (Or.inl ⟨by rfl, ?hy73x1⟩) (by assumption) ?rest73x1
            case hy73x1 => intro w hSw; obtain ⟨s1, s2⟩ := hSw; go_simp <;> with_reducible rfl
            simp only [Act.put, List.getElem_toArray, List.getElem_cons_zero, List.getElem_cons_succ, List.setIfInBounds_toArray, List.set_cons_zero, List.set_cons_succ]
            refine wpAnyH_take (i := 2) (v := (.int .u8 p)) rfl (by as_aux_lemma => kernel_rfl) (by as_aux_lemma => kernel_rfl) (by as_aux_lemma => kernel_rfl) (fun _ _ _ h => h) (Or.inl ⟨by rfl, ?hy74x2⟩) (by assumption) ?rest74x2
            case hy74x2 => intro w hSw; obtain ⟨s1, s2⟩ := hSw; go_simp <;> with_reducible rfl
            simp only [Act.put, List.getElem_toArray, List.getElem_cons_zero, List.getElem_cons_succ, List.setIfInBounds_toArray, List.set_cons_zero, List.set_cons_succ]
            refine wpAnyH_take (i := 3) (v := ?v75x3) rfl (by as_aux_lemma => kernel_rfl) (by as_aux_lemma => kernel_rfl) (by as_aux_lemma => kernel_rfl) (fun _ _ _ h => h) (Or.inl ⟨by rfl, ?hy75x3⟩) (by assumption) ?rest75x3
            case hy75x3 => intro w hSw; obtain ⟨s1, s2⟩ := hSw; go_simp <;> with_reducible rfl
            simp only [Act.put, List.getElem_toArray, List.getElem_cons_zero, List.getElem_cons_succ, List.setIfInBounds_toArray, List.set_cons_zero, List.set_cons_succ]
            refine wpAnyH_take (i := 4) (v := ?v76x4) rfl (by as_aux_lemma => kernel_rfl) (by as_aux_lemma => kernel_rfl) (by as_aux_lemma => kernel_rfl) (fun _ _ _ h => h) (Or.inl ⟨by rfl, ?hy76x4⟩) (by assumption) ?rest76x4
            case hy76x4 => intro w hSw; obtain ⟨s1, s2⟩ := hSw; go_simp <;> with_reducible rfl
            simp only [Act.put, List.getElem_toArray, List.getElem_cons_zero, List.getElem_cons_succ, List.setIfInBounds_toArray, List.set_cons_zero, List.set_cons_succ]
            refine wpAnyH_take (i := 5) (v := (.int .u8 q)) rfl (by as_aux_lemma => kernel_rfl) (by as_aux_lemma => kernel_rfl) (by as_aux_lemma => kernel_rfl) (fun _ _ _ h => h) (Or.inl ⟨by rfl, ?hy77x5⟩) (by assumption) ?rest77x5
            case hy77x5 => intro w hSw; obtain ⟨s1, s2⟩ := hSw; go_simp <;> with_reducible rfl
            simp only [Act.put, List.getElem_toArray, List.getElem_cons_zero, List.getElem_cons_succ, List.setIfInBounds_toArray, List.set_cons_zero, List.set_cons_succ]
            refine wpAnyH_take (i := 6) (v := (.bool true)) rfl (by as_aux_lemma => kernel_rfl) (by as_aux_lemma => kernel_rfl) (by as_aux_lemma => kernel_rfl) (fun _ _ _ h => h) (Or.inl ⟨by rfl, ?hy78x6⟩) (by assumption) ?rest78x6
            case hy78x6 => intro w hSw; obtain ⟨s1, s2⟩ := hSw; go_simp <;> with_reducible rfl
            simp only [Act.put, List.getElem_toArray, List.getElem_cons_zero, List.getElem_cons_succ, List.setIfInBounds_toArray, List.set_cons_zero, List.set_cons_succ]
            refine wpAnyH_done (by as_aux_lemma => kernel_rfl) ?_ _
            go_wp2_with fail
            refine wp_region_held_drew (S := fun x => x.cell? ⟨g, n, none⟩ = some (.int .u8 p) ∧ x.cell? ⟨h, n, none⟩ = some (.int .u8 q)) (by kernel_rfl) ⟨c1, c2⟩ (fun hHeld => ?_)
            refine wpAnyH_take (i := 0) (v := ?v79x0) rfl (by as_aux_lemma => kernel_rfl) (by as_aux_lemma => kernel_rfl) (by as_aux_lemma => kernel_rfl) (fun _ _ _ h => h) (Or.inl ⟨by rfl, ?hy79x0⟩) (by assumption) ?rest79x0
            case hy79x0 => intro w hSw; obtain ⟨s1, s2⟩ := hSw; go_simp <;> with_reducible rfl
            simp only [Act.put, List.getElem_toArray, List.getElem_cons_zero, List.setIfInBounds_toArray, List.set_cons_zero, List.set_cons_succ]
            refine wpAnyH_take (i := 1) (v := ?v80x1) rfl (by as_aux_lemma => kernel_rfl) (by as_aux_lemma => kernel_rfl) (by as_aux_lemma => kernel_rfl) (fun _ _ _ h => h) (Or.inl ⟨by rfl, ?hy80x1⟩) (by assumption) ?rest80x1
            case hy80x1 => intro w hSw; obtain ⟨s1, s2⟩ := hSw; go_simp <;> with_reducible rfl
            simp only [Act.put, List.getElem_toArray, List.getElem_cons_zero, List.getElem_cons_succ, List.setIfInBounds_toArray, List.set_cons_zero, List.set_cons_succ]
            refine wpAnyH_take (i := 2) (v := (.int .u8 p)) rfl (by as_aux_lemma => kernel_rfl) (by as_aux_lemma => kernel_rfl) (by as_aux_lemma => kernel_rfl) (fun _ _ _ h => h) (Or.inl ⟨by rfl, ?hy81x2⟩) (by assumption) ?rest81x2
            case hy81x2 => intro w hSw; obtain ⟨s1, s2⟩ := hSw; go_simp <;> with_reducible rfl
            simp only [Act.put, List.getElem_toArray, List.getElem_cons_zero, List.getElem_cons_succ, List.setIfInBounds_toArray, List.set_cons_zero, List.set_cons_succ]
            refine wpAnyH_take (i := 3) (v := ?v82x3) rfl (by as_aux_lemma => kernel_rfl) (by as_aux_lemma => kernel_rfl) (by as_aux_lemma => kernel_rfl) (fun _ _ _ h => h) (Or.inl ⟨by rfl, ?hy82x3⟩) (by assumption) ?rest82x3
            case hy82x3 => intro w hSw; obtain ⟨s1, s2⟩ := hSw; go_simp <;> with_reducible rfl
            simp only [Act.put, List.getElem_toArray, List.getElem_cons_zero, List.getElem_cons_succ, List.setIfInBounds_toArray, List.set_cons_zero, List.set_cons_succ]
            refine wpAnyH_take (i := 4) (v := ?v83x4) rfl (by as_aux_lemma => kernel_rfl) (by as_aux_lemma => kernel_rfl) (by as_aux_lemma => kernel_rfl) (fun _ _ _ h => h) (Or.inl ⟨by rfl, ?hy83x4⟩) (by assumption) ?rest83x4
            case hy83x4 => intro w hSw; obtain ⟨s1, s2⟩ := hSw; go_simp <;> with_reducible rfl
            simp only [Act.put, List.getElem_toArray, List.getElem_cons_zero, List.getElem_cons_succ, List.setIfInBounds_toArray, List.set_cons_zero, List.set_cons_succ]
            refine wpAnyH_take (i := 5) (v := (.int .u8 q)) rfl (by as_aux_lemma => kernel_rfl) (by as_aux_lemma => kernel_rfl) (by as_aux_lemma => kernel_rfl) (fun _ _ _ h => h) (Or.inl ⟨by rfl, ?hy84x5⟩) (by assumption) ?rest84x5
            case hy84x5 => intro w hSw; obtain ⟨s1, s2⟩ := hSw; go_simp <;> with_reducible rfl
            simp only [Act.put, List.getElem_toArray, List.getElem_cons_zero, List.getElem_cons_succ, List.setIfInBounds_toArray, List.set_cons_zero, List.set_cons_succ]
            refine wpAnyH_take (i := 6) (v := (.bool false)) rfl (by as_aux_lemma => kernel_rfl) (by as_aux_lemma => kernel_rfl) (by as_aux_lemma => kernel_rfl) (fun _ _ _ h => h) (Or.inl ⟨by rfl, ?hy85x6⟩) (by assumption) ?rest85x6
            case hy85x6 => intro w hSw; obtain ⟨s1, s2⟩ := hSw; go_simp <;> with_reducible rfl
            simp only [Act.put, List.getElem_toArray, List.getElem_cons_zero, List.getElem_cons_succ, List.setIfInBounds_toArray, List.set_cons_zero, List.set_cons_succ]
            refine wpAnyH_done (by as_aux_lemma => kernel_rfl) ?_ _
            clear hne hcm
            go_wp2_with fail
            refine wp_region_held_drew (S := fun x => Below wc.heap.size wc x) (by kernel_rfl) (unhide HR).drew.drew.drew (fun hHeld => ?_)
            refine wpAnyH_ready (rs := [0]) (by as_aux_lemma => kernel_rfl) (by simp) ?_
            refine AllReadyH.cons rfl (fun K hK => ?_) AllReadyH.nil
            go_simp
            refine (live_on (by assumption)).mono ?_
            rintro e wq ⟨rfl, hb1⟩
            refine hK _ _ hb1 ?_
            clear hK hHeld
            intro hHeld
            refine wpAnyH_take (i := 1) (v := ?v86x1) rfl (by as_aux_lemma => kernel_rfl) (by as_aux_lemma => kernel_rfl) (by as_aux_lemma => kernel_rfl) (fun _ _ _ h => h) (Or.inl ⟨by rfl, ?hy86x1⟩) (by assumption) ?rest86x1
            case hy86x1 => intro w hSw; go_simp <;> with_reducible rfl
            simp only [Act.put, List.getElem_toArray, List.getElem_cons_zero, List.getElem_cons_succ, List.setIfInBounds_toArray, List.set_cons_zero, List.set_cons_succ]
            refine wpAnyH_take (i := 2) (v := ?v87x2) rfl (by as_aux_lemma => kernel_rfl) (by as_aux_lemma => kernel_rfl) (by as_aux_lemma => kernel_rfl) (fun _ _ _ h => h) (Or.inl ⟨by rfl, ?hy87x2⟩) (by assumption) ?rest87x2
            case hy87x2 => intro w hSw; go_simp <;> with_reducible rfl
            simp only [Act.put, List.getElem_toArray, List.getElem_cons_zero, List.getElem_cons_succ, List.setIfInBounds_toArray, List.set_cons_zero, List.set_cons_succ]
            refine wpAnyH_take (i := 3) (v := (.agg #[.int .i32 a0, .int .i64 a1])) rfl (by as_aux_lemma => kernel_rfl) (by as_aux_lemma => kernel_rfl) (by as_aux_lemma => kernel_rfl) (fun _ _ _ h => h) (Or.inl ⟨by rfl, ?hy88x3⟩) (by assumption) ?rest88x3
            case hy88x3 => intro w hSw; obtain ⟨s1, s2⟩ := unhide HA _ (unhide HG _ hSw).2.2; go_simp <;> with_reducible rfl
            simp only [Act.put, List.getElem_toArray, List.getElem_cons_zero, List.getElem_cons_succ, List.setIfInBounds_toArray, List.set_cons_zero, List.set_cons_succ]
            refine wpAnyH_take (i := 4) (v := (.agg #[.int .i32 b0, .int .i64 b1])) rfl (by as_aux_lemma => kernel_rfl) (by as_aux_lemma => kernel_rfl) (by as_aux_lemma => kernel_rfl) (fun _ _ _ h => h) (Or.inl ⟨by rfl, ?hy89x4⟩) (by assumption) ?rest89x4
            case hy89x4 => intro w hSw; obtain ⟨s1, s2⟩ := unhide HB _ (unhide HG _ hSw).2.2; go_simp <;> with_reducible rfl
            simp only [Act.put, List.getElem_toArray, List.getElem_cons_zero, List.getElem_cons_succ, List.setIfInBounds_toArray, List.set_cons_zero, List.set_cons_succ]
            refine wpAnyH_ready (rs := [5]) (by as_aux_lemma => kernel_rfl) (by simp) ?_
            refine AllReadyH.cons rfl (fun K hK => ?_) AllReadyH.nil
            go_simp
            refine (grew_on (by assumption) (unhide HCM _)).mono ?_
            rintro e wq ⟨rfl, hb1⟩
            refine hK _ _ hb1 ?_
            clear hK hHeld
            intro hHeld
            refine wpAnyH_take (i := 6) (v := (.bool true)) rfl (by as_aux_lemma => kernel_rfl) (by as_aux_lemma => kernel_rfl) (by as_aux_lemma => kernel_rfl) (fun _ _ _ h => h) (Or.inl ⟨by rfl, ?hy90x6⟩) (by assumption) ?rest90x6
            case hy90x6 => intro w hSw; go_simp <;> with_reducible rfl
            simp only [Act.put, List.getElem_toArray, List.getElem_cons_zero, List.getElem_cons_succ, List.setIfInBounds_toArray, List.set_cons_zero, List.set_cons_succ]
            refine wpAnyH_take (i := 7) (v := (.bool true)) rfl (by as_aux_lemma => kernel_rfl) (by as_aux_lemma => kernel_rfl) (by as_aux_lemma => kernel_rfl) (fun _ _ _ h => h) (Or.inl ⟨by rfl, ?hy91x7⟩) (by assumption) ?rest91x7
            case hy91x7 => intro w hSw; go_simp <;> with_reducible rfl
            simp only [Act.put, List.getElem_toArray, List.getElem_cons_zero, List.getElem_cons_succ, List.setIfInBounds_toArray, List.set_cons_zero, List.set_cons_succ]
            refine wpAnyH_take (i := 8) (v := ?v92x8) rfl (by as_aux_lemma => kernel_rfl) (by as_aux_lemma => kernel_rfl) (by as_aux_lemma => kernel_rfl) (fun _ _ _ h => h) (Or.inl ⟨by rfl, ?hy92x8⟩) (by assumption) ?rest92x8
            case hy92x8 => intro w hSw; go_simp <;> with_reducible rfl
            simp only [Act.put, List.getElem_toArray, List.getElem_cons_zero, List.getElem_cons_succ, List.setIfInBounds_toArray, List.set_cons_zero, List.set_cons_succ]
            refine wpAnyH_take (i := 9) (v := (.agg A)) rfl (by as_aux_lemma => kernel_rfl) (by as_aux_lemma => kernel_rfl) (by as_aux_lemma => kernel_rfl) (fun _ _ _ h => h) (Or.inl ⟨by rfl, ?hy93x9⟩) (by assumption) ?rest93x9
            case hy93x9 => intro w hSw; exact run_loadA rfl rfl (unhide HG _ hSw).1 Try.underlying26 (by rw [sA]; exact Try.isize26) rfl
            simp only [Act.put, List.getElem_toArray, List.getElem_cons_zero, List.getElem_cons_succ, List.setIfInBounds_toArray, List.set_cons_zero, List.set_cons_succ]
            refine wpAnyH_take (i := 11) (v := (.agg #[.int .i32 a0, .int .i64 a1])) rfl (by as_aux_lemma => kernel_rfl) (by as_aux_lemma => kernel_rfl) (by as_aux_lemma => kernel_rfl) (fun _ _ _ h => h) (Or.inl ⟨by rfl, ?hy94x11⟩) (by assumption) ?rest94x11
            case hy94x11 => intro w hSw; obtain ⟨s1, s2⟩ := unhide HA _ (unhide HG _ hSw).2.2; go_simp <;> with_reducible rfl
            simp only [Act.put, List.getElem_toArray, List.getElem_cons_zero, List.getElem_cons_succ, List.setIfInBounds_toArray, List.set_cons_zero, List.set_cons_succ]
            refine wpAnyH_ready (rs := [10]) (by as_aux_lemma => kernel_rfl) (by simp) ?_
            refine AllReadyH.cons rfl (fun K hK => ?_) AllReadyH.nil
            go_simp
            refine (grew_on (by assumption) (unhide HFA _)).mono ?_
            rintro e wq ⟨rfl, hb1⟩
            refine hK _ _ hb1 ?_
            clear hK hHeld
            intro hHeld
            refine wpAnyH_take (i := 12) (v := (.bool true)) rfl (by as_aux_lemma => kernel_rfl) (by as_aux_lemma => kernel_rfl) (by as_aux_lemma => kernel_rfl) (fun _ _ _ h => h) (Or.inl ⟨by rfl, ?hy95x12⟩) (by assumption) ?rest95x12
            case hy95x12 => intro w hSw; have hE := (unhide HEA); go_simp <;> with_reducible rfl
            simp only [Act.put, List.getElem_toArray, List.getElem_cons_zero, List.getElem_cons_succ, List.setIfInBounds_toArray, List.set_cons_zero, List.set_cons_succ]
            refine wpAnyH_take (i := 13) (v := (.bool true)) rfl (by as_aux_lemma => kernel_rfl) (by as_aux_lemma => kernel_rfl) (by as_aux_lemma => kernel_rfl) (fun _ _ _ h => h) (Or.inl ⟨by rfl, ?hy96x13⟩) (by assumption) ?rest96x13
            case hy96x13 => intro w hSw; go_simp <;> with_reducible rfl
            simp only [Act.put, List.getElem_toArray, List.getElem_cons_zero, List.getElem_cons_succ, List.setIfInBounds_toArray, List.set_cons_zero, List.set_cons_succ]
            refine wpAnyH_take (i := 14) (v := ?v97x14) rfl (by as_aux_lemma => kernel_rfl) (by as_aux_lemma => kernel_rfl) (by as_aux_lemma => kernel_rfl) (fun _ _ _ h => h) (Or.inl ⟨by rfl, ?hy97x14⟩) (by assumption) ?rest97x14
            case hy97x14 => intro w hSw; go_simp <;> with_reducible rfl
            simp only [Act.put, List.getElem_toArray, List.getElem_cons_zero, List.getElem_cons_succ, List.setIfInBounds_toArray, List.set_cons_zero, List.set_cons_succ]
            refine wpAnyH_take (i := 15) (v := (.agg C)) rfl (by as_aux_lemma => kernel_rfl) (by as_aux_lemma => kernel_rfl) (by as_aux_lemma => kernel_rfl) (fun _ _ _ h => h) (Or.inl ⟨by rfl, ?hy98x15⟩) (by assumption) ?rest98x15
            case hy98x15 => intro w hSw; exact run_loadA rfl rfl (unhide HC _ (unhide HG _ hSw).2.2) Try.underlying26 (by rw [sC]; exact Try.isize26) rfl
            simp only [Act.put, List.getElem_toArray, List.getElem_cons_zero, List.getElem_cons_succ, List.setIfInBounds_toArray, List.set_cons_zero, List.set_cons_succ]
            refine wpAnyH_take (i := 18) (v := (.agg C)) rfl (by as_aux_lemma => kernel_rfl) (by as_aux_lemma => kernel_rfl) (by as_aux_lemma => kernel_rfl) (fun _ _ _ h => h) (Or.inl ⟨by rfl, ?hy99x18⟩) (by assumption) ?rest99x18
            case hy99x18 => intro w hSw; exact run_loadA rfl rfl (unhide HC _ (unhide HG _ hSw).2.2) Try.underlying26 (by rw [sC]; exact Try.isize26) rfl
            simp only [Act.put, List.getElem_toArray, List.getElem_cons_zero, List.getElem_cons_succ, List.setIfInBounds_toArray, List.set_cons_zero, List.set_cons_succ]
            refine wpAnyH_ready (rs := [16]) (by as_aux_lemma => kernel_rfl) (by simp) ?_
            refine AllReadyH.cons rfl (fun K hK => ?_) AllReadyH.nil
            go_simp
            refine (grew_on (by assumption) (unhide HFC _)).mono ?_
            rintro e wq ⟨rfl, hb1⟩
            refine hK _ _ hb1 ?_
            clear hK hHeld
            intro hHeld
            refine wpAnyH_ready (rs := [17]) (by as_aux_lemma => kernel_rfl) (by simp) ?_
            refine AllReadyH.cons rfl (fun K hK => ?_) AllReadyH.nil
            go_simp
            refine (grew_on (by assumption) (unhide HBK _)).mono ?_
            rintro e wq ⟨rfl, hb1⟩
            refine hK _ _ hb1 ?_
            clear hK hHeld
            intro hHeld
            refine wpAnyH_take (i := 19) (v := (.bool true)) rfl (by as_aux_lemma => kernel_rfl) (by as_aux_lemma => kernel_rfl) (by as_aux_lemma => kernel_rfl) (fun _ _ _ h => h) (Or.inl ⟨by rfl, ?hy100x19⟩) (by assumption) ?rest100x19
            case hy100x19 => intro w hSw; have hE := (unhide HEC); go_simp <;> with_reducible rfl
            simp only [Act.put, List.getElem_toArray, List.getElem_cons_zero, List.getElem_cons_succ, List.setIfInBounds_toArray, List.set_cons_zero, List.set_cons_succ]
            refine wpAnyH_take (i := 20) (v := (.bool true)) rfl (by as_aux_lemma => kernel_rfl) (by as_aux_lemma => kernel_rfl) (by as_aux_lemma => kernel_rfl) (fun _ _ _ h => h) (Or.inl ⟨by rfl, ?hy101x20⟩) (by assumption) ?rest101x20
            case hy101x20 => intro w hSw; go_simp <;> with_reducible rfl
            simp only [Act.put, List.getElem_toArray, List.getElem_cons_zero, List.getElem_cons_succ, List.setIfInBounds_toArray, List.set_cons_zero, List.set_cons_succ]
            refine wpAnyH_take (i := 21) (v := ?v102x21) rfl (by as_aux_lemma => kernel_rfl) (by as_aux_lemma => kernel_rfl) (by as_aux_lemma => kernel_rfl) (fun _ _ _ h => h) (Or.inl ⟨by rfl, ?hy102x21⟩) (by assumption) ?rest102x21
            case hy102x21 => intro w hSw; go_simp <;> with_reducible rfl
            simp only [Act.put, List.getElem_toArray, List.getElem_cons_zero, List.getElem_cons_succ, List.setIfInBounds_toArray, List.set_cons_zero, List.set_cons_succ]
            refine wpAnyH_done (by as_aux_lemma => kernel_rfl) ?_ _
            go_wp2
            go_ret
            exact ⟨rfl, (unhide HW).trans ((unhide HG _ hb1).2.2.mono (unhide HW).size)⟩
end Go.Proofs.Ytbajggmpklajnaa
