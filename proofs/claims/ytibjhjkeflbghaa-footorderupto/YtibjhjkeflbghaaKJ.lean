/- Several texts as one. -/
import Derived.Test.YtibjhjkeflbghaaT0
import Derived.Test.YtibjhjkeflbghaaU4

/- Order's iterator. -/
namespace Go.Proofs.Ytibjhjkeflbghaa
open Go.RowKit Go.Shelf
attribute [local go_sem] Oper.semAt_some
set_option maxRecDepth 100000

def encP (p : Pp) : Array Value := #[.int .i64 p.1, .int .i64 p.2]
/-- Nothing that was there has turned but what b says. -/
structure KeepN (b : Nat → Prop) (A C : World) : Prop where
  size : A.heap.size ≤ C.heap.size
  block : ∀ k, k < A.heap.size → ¬ b k → C.heap[k]? = A.heap[k]?
theorem KeepN.refl (b : Nat → Prop) (A : World) : KeepN b A A := ⟨Nat.le_refl _, fun _ _ _ => rfl⟩
theorem KeepN.trans {b : Nat → Prop} {A C D : World} (h : KeepN b A C) (k : KeepN b C D) : KeepN b A D := ⟨Nat.le_trans h.size k.size, fun j hj hb => (k.block j (Nat.lt_of_lt_of_le hj h.size) hb).trans (h.block j hj hb)⟩
theorem KeepN.below {b : Nat → Prop} {A C : World} (h : Below A.heap.size A C) : KeepN b A C := ⟨h.size, fun j hj _ => h.block j hj⟩
theorem own_keepN {b : Nat → Prop} {A C : World} (hk : KeepN b A C) {base e size n : Nat} {v : Value} {xs : List Value} (hb : ∀ k, b k → k < base) (h : A.ownsRow base e size v n xs) : C.ownsRow base e size v n xs := by
  refine ⟨h.1, ?_⟩
  rcases h.2 with hn | ⟨g', cap', cur, hv', hb', hh, r⟩
  · exact .inl hn
  · exact .inr ⟨g', cap', cur, hv', hb', (hk.block g' (Array.getElem?_eq_some_iff.1 hh).1 (fun c => by have := hb _ c; omega)).trans hh, r⟩
theorem Asks.keepN {b : Nat → Prop} {A C : World} {N mb : Nat} {S : Ky → Bool → Value} {V : Ky → Bool → List Int} (h : Asks N A mb S V) (hk : KeepN b A C) (hb : ∀ k, b k → k < N) (hm : ¬ b mb) : Asks N C mb S V := by
  obtain ⟨f, h1, h2⟩ := h.map
  exact ⟨⟨f, h1.keep (hk.block mb h1.lt hm), h2⟩, ⟨fun k d => own_keepN hk hb (h.rows.own k d), h.rows.ap⟩⟩
theorem ordP_split (L : List Tx) {k : Nat} : ∀ m, k ≤ m → ∃ r, ordP L m = ordP L k ++ r
  | 0, h => by obtain rfl : k = 0 := by omega
               exact ⟨[], rfl⟩
  | m + 1, h => by
    by_cases e : k = m + 1
    · subst e; exact ⟨[], by simp⟩
    · obtain ⟨r, hr⟩ := ordP_split L (k := k) m (by omega)
      exact ⟨r ++ ordI L m m, by show ordP L m ++ ordI L m m = _; rw [hr, List.append_assoc]⟩
theorem ord_next (L : List Tx) {k m u : Nat} (hk : k < m) (hu : u < (fstI L k k).length) : ∃ r, (ordP L k ++ ((fstI L k k).take u).map fun j => (j, (k : Int))) ++ ((fstI L k k).getD u 0, (k : Int)) :: r = ordP L m := by
  obtain ⟨r, hr⟩ := ordP_split L (k := k + 1) m (by omega)
  refine ⟨((fstI L k k).drop (u + 1)).map (fun j => (j, (k : Int))) ++ r, ?_⟩
  have e : ordP L (k + 1) = ordP L k ++ (fstI L k k).map fun j => (j, (k : Int)) := by
    show ordP L k ++ ordI L k k = _
    rw [ordI_fst]
  have e2 : (fstI L k k).getD u 0 = (fstI L k k)[u] := by simp [List.getD, hu]
  have e3 : fstI L k k = (fstI L k k).take u ++ (fstI L k k)[u] :: (fstI L k k).drop (u + 1) := by
    rw [List.getElem_cons_drop, List.take_append_drop]
  have e4 := congrArg (List.map fun j : Int => (j, (k : Int))) e3
  rw [List.map_append, List.map_cons] at e4
  rw [hr, e, e2, e4]
  simp only [List.append_assoc, List.cons_append]

set_option maxHeartbeats 6400000 in
theorem order_seq {b : Nat → Prop} {b3 m : Nat} {L : List Tx} {w : World} (aw : Option Addr) (cw : Nat) (R : Nat → Value) (hm : L.length = m) (hm40 : m ≤ 40) (hb : ∀ k, b k → k < w.heap.size + 2)
    (hbox : ∀ z, KeepN b w z → z.cell? ⟨b3, 0, none⟩ = some (.slice aw m cw))
    (hcell : ∀ z, KeepN b w z → ∀ i, i < m → ∃ gw ow, aw = some ⟨gw, ow, none⟩ ∧ z.cell? ⟨gw, ow + i, none⟩ = some (R i) ∧ SeesL lC 3 z (R i) (lkX (L.getD i default)))
    (hok : ∀ i, i < m → ∀ y ∈ lkX (L.getD i default), OkK y.1) (hlen : ∀ i, i < m → (lkX (L.getD i default)).length ≤ 4398046511104) (n : Nat) :
    SeqB Fence.wide n Try.prog 45 #[.pointer (some ⟨b3, 0, none⟩)] encP (fun pre x => ∃ r, pre ++ x :: r = ordP L m) (KeepN b) (fun xs => xs = ordP L m) w := fun l J Jx W hW hW2 hJ hY hj0 => by
  obtain ⟨B, hB⟩ : ∃ B, W.heap.size = B := ⟨_, rfl⟩
  obtain ⟨Y1, hY1⟩ : ∃ z, W.alloc (.map #[] 0) = z := ⟨_, rfl⟩
  obtain ⟨Y2, hY2⟩ : ∃ z, Y1.alloc (.cells (List.replicate m (Value.int .i64 0)).toArray 3) = z := ⟨_, rfl⟩
  obtain ⟨Y3, hY3⟩ : ∃ z, Y2.alloc (.cells #[.map (some B), .slice (some ⟨B + 1, 0, none⟩) m m] 79) = z := ⟨_, rfl⟩
  have z1 : Y1.heap.size = B + 1 := by rw [← hY1, ← hB]; simp
  have z2 : Y2.heap.size = B + 2 := by rw [← hY2]; simp [z1]
  have z3 : Y3.heap.size = B + 3 := by rw [← hY3]; simp [z2]
  have b1 : Below B W Y1 := by rw [← hY1, ← hB]; exact below_box _
  have b2 : Below Y1.heap.size Y1 Y2 := hY2 ▸ below_box _
  have b3' : Below Y2.heap.size Y2 Y3 := hY3 ▸ below_box _
  have bb2 : Below B Y1 Y2 := b2.mono (by omega)
  have bb3 : Below B Y2 Y3 := b3'.mono (by omega)
  have bW3 : Below B W Y3 := (b1.trans bb2).trans bb3
  have hmk : (Instr.makeMap 77 none).run Try.prog W = .ok (.map (some B)) Y1 := by rw [← hY1, ← hB]; rfl
  have hms : (Instr.makeSlice 30 (.int .i64 m) (.int .i64 m)).run Try.prog Y1 = .ok (.slice (some ⟨B + 1, 0, none⟩) m m) Y2 := by rw [← hY2, ← z1]; exact make30 m (by omega) Y1
  have as3 : Asks (B + 3) Y3 B (fun _ _ => .slice none 0 0) (addA L 0) := by
    have h := Asks.start W (N := B + 3)
    rw [hY1, hB] at h
    exact (h.below b2).below b3'
  have row3 : Y3.heap[B + 1]? = some (.cells (nV (List.replicate m 0)) 3) := by
    have h : Y2.heap[B + 1]? = some (.cells (List.replicate m (Value.int .i64 0)).toArray 3) := by rw [← hY2, ← z1]; exact heap_alloc_new Y1 _
    rw [b3'.block _ (by omega), h]
    simp [nV]
  have box3 : Y3.heap[B + 2]? = some (.cells #[.map (some B), .slice (some ⟨B + 1, 0, none⟩) m m] 79) := by rw [← hY3, ← z2]; exact heap_alloc_new Y2 _
  have hKW : KeepN b w W := KeepN.below hW
  have hwB : w.heap.size + 2 ≤ B := by omega
  have hbB : ∀ k, b k → k < B := fun k hk => by have := hb k hk; omega
  have kW3 : KeepN b W Y3 := KeepN.below (hB.symm ▸ bW3)
  have kW1 : KeepN b W Y1 := KeepN.below (hB.symm ▸ b1)
  have j3 : J [] Y3 := hJ _ _ _ hj0 (hB.symm ▸ bW3)
  have c1 : Y1.cell? ⟨b3, 0, none⟩ = some (.slice aw m cw) := hbox _ (hKW.trans kW1)
  have c3 : Y3.cell? ⟨b3, 0, none⟩ = some (.slice aw m cw) := hbox _ (hKW.trans kW3)
  rw [hB] at hJ
  have H3 := hide (And.intro as3 (And.intro row3 (And.intro box3 (And.intro (hKW.trans kW3) (And.intro j3 z3)))))
  have HJ := hide hJ
  have HY := hide hY
  have HCELL := hide hcell
  have HOK := hide hok
  have HLEN := hide hlen
  have HBB := hide hbB
  have HMM := hide hm
  have HY3 := hide hY3
  have HZ2 := hide z2
  clear hW hW2 hJ hY hj0 hcell hok hlen hbB hm hY1 hY2 hY3 z1 z2 z3 b1 b2 b3' bb2 bb3 bW3 as3 row3 box3 hKW kW3 kW1 j3 hb hB hbox
  refine callsIn_of_wp Try.func45 rfl trivial ?_ rfl
  simp only [Try.ntmps45, List.size_toArray, List.length_cons, List.length_nil, Nat.reduceAdd, Nat.reduceSub, Array.replicate_succ, Array.replicate_zero, List.push_toArray, List.append_toArray, List.nil_append, List.cons_append]
  gi_wp2_with (rw [unhide HY3])
  rw [unhide HZ2]
  gi_loopw [15] (fun c wr => ∃ k : Nat, k ≤ m ∧ c = .int .i64 k ∧ ∃ S M, Asks (B + 3) wr B S (addA L k) ∧ wr.heap[B + 1]? = some (.cells (nV M) 3) ∧ M.length = m ∧ (∀ j, M.getD j 0 < (k : Int) ∨ M.getD j 0 = 0) ∧ wr.heap[B + 2]? = some (.cells #[.map (some B), .slice (some ⟨B + 1, 0, none⟩) m m] 79) ∧ KeepN b w wr ∧ J (ordP L k) wr ∧ B + 3 ≤ wr.heap.size) (fun c _ => m - (intOf c).toNat)
  case atStart =>
    obtain ⟨h1, h2, h3, h4, h5, h6⟩ := unhide H3
    exact ⟨0, by omega, rfl, _, _, h1, h2, by simp, fun j => .inr (by simp [List.getD, List.getElem?_replicate]; split <;> rfl), h3, h4, h5, by omega⟩
  case round =>
    obtain ⟨k, hk, rfl, S, M, has, hrow, hML, hMk, hbx, hkw, hj, hsz⟩ := hrel
    by_cases hlt : k < m
    · obtain ⟨gw, ow, haw, hcl, hsl⟩ := (unhide HCELL) wr hkw k hlt
      subst haw
      obtain ⟨ra, rc, hre⟩ := hsl.shape
      obtain ⟨rn, hrn⟩ : ∃ z, (lkX (L.getD k default)).length = z := ⟨_, rfl⟩
      rw [hrn] at hre
      rw [hre] at hcl
      have hlk0 : (k : Int) < (m : Int) := by omega
      have hkB : ∀ z, But (B + 1) wr z → KeepN b w z := fun z hz => ⟨Nat.le_trans hkw.size hz.size, fun q hq hnb => (hz.block q (Nat.lt_of_lt_of_le hq hkw.size) (by omega)).trans (hkw.block q hq hnb)⟩
      have HC := hide (clashing_any (w := wr) (v := R k) k M (fun z hz => by obtain ⟨_, _, _, _, h⟩ := (unhide HCELL) z (hkB z hz) k hlt; exact h) ((unhide HOK) k hlt) has (by omega) (by omega) hsz hrow hML (by omega) (by omega) (fun j hj => by have := hMk j; omega) (fun q d i hi => addA_in q d i hi) (fun q d => by have := addA_len L q d k; omega) ((unhide HLEN) k hlt))
      rw [hre] at HC
      have d0 : wr.cell? ⟨B + 2, 0, none⟩ = some (.map (some B)) := cell_at hbx
      have d1 : wr.cell? ⟨B + 2, 1, none⟩ = some (.slice (some ⟨B + 1, 0, none⟩) m m) := cell_at hbx
      have HS := hide (And.intro has (And.intro hMk (And.intro hbx (And.intro hkw (And.intro hj hsz)))))
      have HRE := hide hre
      have HRN := hide hrn
      clear has hrow hML hMk hbx hkw hj hsz hkB hsl hre hrn
      gi_wp2_with fail
      refine ⟨trivial, fun h => (by cases h), (callsIn_wide.2 (unhide HC)).mono ?_⟩
      rintro e w4 ⟨ca, cc, out, M', rfl, hown, hinv, hrow4, hbut⟩
      obtain ⟨has, hMk, hbx, hkw, hj, hsz⟩ := unhide HS
      rw [srtI_fst hinv] at hown
      obtain ⟨F, hF⟩ : ∃ F, fstI L k k = F := ⟨_, rfl⟩
      rw [hF] at hown
      have hol := (own_sees nC_len (by decide) hown).1
      have as4 := has.but hbut (by omega) (by omega)
      have bx4 := (hbut.block (B + 2) (by omega) (by omega)).trans hbx
      have kw4 : KeepN b w w4 := ⟨Nat.le_trans hkw.size hbut.size, fun q hq hnb => (hbut.block q (Nat.lt_of_lt_of_le hq hkw.size) (by omega)).trans (hkw.block q hq hnb)⟩
      have j4 : J (ordP L k) w4 := (unhide HJ) _ _ _ hj (hbut.low (by omega) (by omega))
      have sz4 : B + 3 ≤ w4.heap.size := Nat.le_trans hsz hbut.size
      have M4 : ∀ j, M'.getD j 0 < ((k + 1 : Nat) : Int) ∨ M'.getD j 0 = 0 := fun j => by
        rcases hinv.old j with c | c
        · rw [c]; have := hMk j; omega
        · rw [c]; omega
      have hML4 := hinv.len
      rw [hol]
      obtain ⟨fn, hfn⟩ : ∃ z, F.length = z := ⟨_, rfl⟩
      rw [hol, hfn] at hown
      rw [hfn]
      have hfk : fn ≤ 40 := by
        rw [← hfn, ← hF]
        have h1 := ordI_len L k k
        rw [ordI_fst, List.length_map] at h1
        omega
      have H4 := hide (And.intro as4 (And.intro bx4 (And.intro kw4 (And.intro j4 (And.intro sz4 (And.intro M4 (And.intro hML4 (And.intro hrow4 (And.intro hown hsz)))))))))
      have HF := hide hF
      have HFN := hide hfn
      clear hown hinv hrow4 hbut has hMk hbx hkw hj hsz hol as4 bx4 kw4 j4 sz4 M4 hML4 hF hfn HC HS d0 d1 hcl
      gi_wp2
      gi_loopw [25] (fun c wr' => ∃ u : Nat, u ≤ fn ∧ c = .int .i64 u ∧ J (ordP L k ++ (F.take u).map fun j => (j, (k : Int))) wr' ∧ KeepN b w4 wr') (fun c _ => fn - (intOf c).toNat)
      case atStart => exact ⟨0, by omega, rfl, by have := (unhide H4).2.2.2.1; simpa using this, KeepN.refl _ _⟩
      case round =>
        obtain ⟨u, hu, rfl, hju, hku⟩ := hrel
        by_cases hlu : u < fn
        · obtain ⟨as4, bx4, kw4, j4, sz4, M4, hML4, hrow4, hown, hsz⟩ := unhide H4
          have hFl : u < F.length := by rw [unhide HFN]; exact hlu
          have hsee := (own_sees nC_len (by decide) (own_keepN hku (fun q hq => by have := (unhide HBB) q hq; omega) hown)).2
          obtain ⟨gf, of, hfo, cf⟩ := int_cells hsee rfl hFl
          subst hfo
          obtain ⟨x, hx⟩ : ∃ x, F.getD u 0 = x := ⟨_, rfl⟩
          rw [hx] at cf
          have hnx := ord_next L (m := m) hlt (show u < (fstI L k k).length by rw [unhide HF]; exact hFl)
          rw [unhide HF, hx] at hnx
          obtain ⟨fn2, tmps, assign, body, hyy, hR⟩ := (unhide HY) _ (x, (k : Int)) wr hju hnx
          unfold encP at hyy
          have hsp : (ordP L k ++ (F.take u).map fun j => (j, (k : Int))) ++ [(x, (k : Int))] = ordP L k ++ (F.take (u + 1)).map fun j => (j, (k : Int)) := by
            have e : F[u] = x := by rw [← hx]; simp [List.getD, hFl]
            rw [List.take_succ_eq_append_getElem hFl, e, List.map_append, List.append_assoc]
            rfl
          rw [hsp] at hR
          have HKU := hide hku
          have hlu0 : (u : Int) < (fn : Int) := by omega
          clear as4 bx4 kw4 j4 sz4 M4 hML4 hrow4 hown hsz hFl hsee hx hnx hsp hju hku
          gi_wp2
          refine ⟨fun h => (by cases h), hR.mono ?_⟩
          rintro e W3 (⟨rfl, hJ3, hk3⟩ | ⟨rfl, hJx3⟩)
          · have HG := hide (And.intro hJ3 ((unhide HKU).trans hk3))
            clear hJ3 hk3 cf
            gi_wp2
            go_roundw
            case rel => exact ⟨u + 1, by omega, by go_num, (unhide HG).1, (unhide HG).2⟩
            case measure => simp [intOf]; omega
          · gi_wp2
            refine bodyPost_ret (results_none rfl _ _ _) rfl ?_
            exact ⟨⟨_, rfl⟩, .inr ⟨_, hJx3⟩⟩
        · obtain rfl : u = fn := by omega
          obtain ⟨as4, bx4, kw4, j4, sz4, M4, hML4, hrow4, hown, hsz⟩ := unhide H4
          rw [List.take_of_length_le (by rw [unhide HFN]; exact Nat.le_refl _)] at hju
          have hju2 : J (ordP L (k + 1)) wr := by
            have e : ordP L (k + 1) = ordP L k ++ F.map fun j => (j, (k : Int)) := by
              show ordP L k ++ ordI L k k = _
              rw [ordI_fst, unhide HF]
            rw [e]
            exact hju
          have nB : ∀ q, B ≤ q → ¬ b q := fun q hq hbq => by have := (unhide HBB) q hbq; omega
          have as5 := as4.keepN hku (fun q hq => by have := (unhide HBB) q hq; omega) (nB _ (by omega))
          have bx5 := (hku.block (B + 2) (by omega) (nB _ (by omega))).trans bx4
          have rw5 := (hku.block (B + 1) (by omega) (nB _ (by omega))).trans hrow4
          have kw5 := kw4.trans hku
          have sz5 : B + 3 ≤ wr.heap.size := Nat.le_trans sz4 hku.size
          have hkC : ∀ z, Ch (B + 3) B wr z → KeepN b w z := fun z hz => ⟨Nat.le_trans kw5.size hz.size, fun q hq hnb => (hz.block q (by omega) (by omega)).trans (kw5.block q hq hnb)⟩
          have HA := hide (add_any (w := wr) (v := R k) (V := addA L k) (k : Int) (.slice (some ⟨B + 1, 0, none⟩) m m) ⟨_, _, _, rfl⟩ (fun z hz => by obtain ⟨_, _, _, _, h⟩ := (unhide HCELL) z (hkC z hz) k hlt; exact h) ((unhide HOK) k hlt) as5 sz5 (by omega) ((unhide HLEN) k hlt) (fun q d t => by have := addAT_len L k t q d; omega))
          rw [unhide HRE] at HA
          have d0 : wr.cell? ⟨B + 2, 0, none⟩ = some (.map (some B)) := cell_at bx5
          have d1 : wr.cell? ⟨B + 2, 1, none⟩ = some (.slice (some ⟨B + 1, 0, none⟩) m m) := cell_at bx5
          have H5 := hide (And.intro bx5 (And.intro rw5 (And.intro kw5 (And.intro sz5 (And.intro hju2 (And.intro M4 hML4))))))
          clear as4 bx4 kw4 j4 sz4 M4 hML4 hrow4 hown hsz hju hju2 nB as5 bx5 rw5 kw5 sz5 hkC hku
          gi_wp2_with fail
          refine ⟨trivial, fun h => (by cases h), (callsIn_wide.2 (unhide HA)).mono ?_⟩
          rintro e w6 ⟨rfl, ⟨S', as6⟩, hch⟩
          obtain ⟨bx5, rw5, kw5, sz5, hju2, M4, hML4⟩ := unhide H5
          have HG : Hid (Asks (B + 3) w6 B S' (addA L (k + 1)) ∧ w6.heap[B + 1]? = some (.cells (nV M') 3) ∧ M'.length = m ∧ (∀ j, M'.getD j 0 < ((k + 1 : Nat) : Int) ∨ M'.getD j 0 = 0) ∧ w6.heap[B + 2]? = some (.cells #[.map (some B), .slice (some ⟨B + 1, 0, none⟩) m m] 79) ∧ KeepN b w w6 ∧ J (ordP L (k + 1)) w6 ∧ B + 3 ≤ w6.heap.size) :=
            ⟨as6, (hch.block _ (by omega) (by omega)).trans rw5, hML4, M4, (hch.block _ (by omega) (by omega)).trans bx5, ⟨Nat.le_trans kw5.size hch.size, fun q hq hnb => (hch.block q (by omega) (by omega)).trans (kw5.block q hq hnb)⟩, (unhide HJ) _ _ _ hju2 ⟨hch.os, hch.tape, hch.output, hch.size, fun q hq => hch.block q (by omega) (by omega)⟩, Nat.le_trans sz5 hch.size⟩
          clear as6 hch bx5 rw5 kw5 sz5 hju2 M4 hML4 d0 d1
          gi_wp2
          go_roundw
          case rel => exact ⟨k + 1, by omega, by go_num, S', M', unhide HG⟩
          case measure => simp [intOf]; omega
    · obtain rfl : k = m := by omega
      have HG := hide hj
      clear has hrow hML hMk hbx hkw hj hsz
      gi_wp2
      go_end0
      exact ⟨⟨_, rfl⟩, .inl ⟨_, rfl, unhide HG⟩⟩
end Go.Proofs.Ytibjhjkeflbghaa

/- Order: the program's. -/
namespace Go.Proofs.Ytibjhjkeflbghaa
open Go.RowKit
set_option maxRecDepth 100000

theorem Try.info35 : (Try.prog.info? 35).map (fun i => (i.zero, i.size, i.bytes)) = some (some (.slice none 0 0), 1, 24) := by kernel_rfl
theorem make63 (n : Nat) (hn : n ≤ 1048576) (W : World) : (Instr.makeSlice 63 (.int .i64 n) (.int .i64 n)).run Try.prog W = .ok (.slice (some ⟨W.heap.size, 0, none⟩) n n) (W.alloc (.cells (List.replicate n (Value.slice none 0 0)).toArray 35)) := by
  obtain ⟨i4, hi4, hz0, hz1, hz2⟩ := info_parts Try.info35
  have h := run_make (P := Try.prog) W 63 35 i4 _ Try.underlying63 hi4 hz0 .i64 .i64 n n (by omega) (by omega) (by rw [hz2]; omega) (by omega)
  rw [hz1, Nat.mul_one] at h
  have e : madeCells (Value.slice none 0 0).cells ((n : Int).toNat) = (List.replicate n (Value.slice none 0 0)).toArray := by
    have hc : (Value.slice none 0 0).cells = #[.slice none 0 0] := rfl
    rw [hc, Int.toNat_natCast]
    refine Array.ext_getElem? fun j => ?_
    unfold madeCells
    rw [Array.getElem?_map, Array.getElem?_range]
    by_cases hj : j < n
    · rw [if_pos hj]
      simp [Nat.mod_one, hj]
    · rw [if_neg hj]
      simp [hj]
  rw [e] at h
  exact h
/-- What Order has laid by: what each wants. -/
structure Wants (B : Nat) (w : World) (g m : Nat) (L : List Tx) (rows : List Value) : Prop where
  box : w.heap[g + 1]? = some (.cells #[.slice (some ⟨g, 0, none⟩) m m] 63)
  row : w.heap[g]? = some (.cells rows.toArray 35)
  len : rows.length = m
  own : ∀ i, i < m → w.ownsRow B 39 3 (rows.getD i undef) (lkX (L.getD i default)).length ((lkX (L.getD i default)).flatMap lC)

set_option maxHeartbeats 6400000 in
theorem order_any {v : Value} {L : List Tx} {w : World} (hs : SeesL xC 6 w v L) (hx : ∀ x ∈ L, SeesX w x) (hsh : ∀ x ∈ L, Short x) (hl : L.length ≤ 1048576) :
    Calls Try.prog 24 #[v] w fun e w' => e = .returned (.func (.func 45) #[] #[.pointer (some ⟨w.heap.size + 1, 0, none⟩)]) ∧ (∃ rows, Wants w.heap.size w' w.heap.size L.length L rows) ∧ Below w.heap.size w w' := by
  obtain ⟨ao, cap, hv⟩ := hs.shape
  obtain ⟨m, hm⟩ : ∃ m, L.length = m := ⟨_, rfl⟩
  rw [hm] at hv hl ⊢
  subst hv
  obtain ⟨g, hg⟩ : ∃ g, w.heap.size = g := ⟨_, rfl⟩
  obtain ⟨Y1, hY1⟩ : ∃ z, w.alloc (.cells (List.replicate m (Value.slice none 0 0)).toArray 35) = z := ⟨_, rfl⟩
  obtain ⟨Y, hY⟩ : ∃ z, Y1.alloc (.cells #[.slice (some ⟨g, 0, none⟩) m m] 63) = z := ⟨_, rfl⟩
  have z1 : Y1.heap.size = g + 1 := by rw [← hY1, ← hg]; simp
  have zY : Y.heap.size = g + 2 := by rw [← hY]; simp [z1]
  have b1 : Below w.heap.size w Y1 := hY1 ▸ below_box _
  have bY1 : Below Y1.heap.size Y1 Y := hY ▸ below_box _
  have bY : Below w.heap.size w Y := b1.trans (bY1.mono b1.size)
  have hmk : (Instr.makeSlice 63 (.int .i64 m) (.int .i64 m)).run Try.prog w = .ok (.slice (some ⟨g, 0, none⟩) m m) Y1 := by rw [← hY1, ← hg]; exact make63 m hl w
  have rY : Y.heap[g]? = some (.cells (List.replicate m (Value.slice none 0 0)).toArray 35) := by
    rw [bY1.block _ (by omega), ← hY1, ← hg]; exact heap_alloc_new w _
  have xY : Y.heap[g + 1]? = some (.cells #[.slice (some ⟨g, 0, none⟩) m m] 63) := by rw [← hY, ← z1]; exact heap_alloc_new Y1 _
  have hkeep : ∀ z, But g Y z → ∀ p x, w.cell? p = some x → z.cell? p = some x := fun z hz p x hp => by
    have hlt := World.block_lt_of_cell? w p hp
    have h1 : z.heap[p.block]? = Y.heap[p.block]? := hz.block _ (Nat.lt_of_lt_of_le hlt bY.size) (by omega)
    have e := h1.trans (bY.block _ hlt)
    have : z.cell? p = w.cell? p := by unfold World.cell?; rw [e]
    rw [this]; exact hp
  have HST : Hid (∀ z, But g Y z → SeesL xC 6 z (.slice ao m cap) L) := fun z hz => hs.keep xC_len (hkeep z hz)
  have HXZ : Hid (∀ z, But g Y z → ∀ i, i < m → SeesX z (L.getD i default) ∧ Short (L.getD i default)) := fun z hz i hi => by
    rw [getD_at' (show i < L.length by omega)]
    exact ⟨(hx _ (List.getElem_mem _)).keep (hkeep z hz), hsh _ (List.getElem_mem _)⟩
  have HLL := hide hm
  have H0 := hide (And.intro rY (And.intro xY (And.intro bY zY)))
  have HY := hide hY
  have HZ1 := hide z1
  have HG := hide hg
  clear hs hx hsh b1 bY1 bY rY xY hkeep hY hY1 zY z1
  rw [hg]
  clear hg
  go_enter Try.func24, Try.ntmps24
  go_wp2_with (rw [unhide HY])
  rw [unhide HZ1]
  go_loopw [11] (fun c wr => ∃ t : Nat, t ≤ m ∧ c = .int .i64 t ∧ ∃ rows : List Value, wr.heap[g]? = some (.cells rows.toArray 35) ∧ rows.length = m ∧ (∀ i, i < t → wr.ownsRow (g + 2) 39 3 (rows.getD i undef) (lkX (L.getD i default)).length ((lkX (L.getD i default)).flatMap lC)) ∧ But g Y wr) (fun c _ => m - (intOf c).toNat)
  case atStart => exact ⟨0, by omega, rfl, _, (unhide H0).1, by simp, fun i hi => absurd hi (by omega), But.refl _ _⟩
  case round =>
    obtain ⟨t, ht, rfl, rows, hrow, hrl, how, hbr⟩ := hrel
    by_cases hlt : t < m
    · have hll := unhide HLL
      have hltN : t < L.length := by omega
      obtain ⟨gb, ob, hao, g0, g1, g2, g3, g4, g5⟩ := tx_cells (unhide HST wr hbr) rfl hltN
      subst hao
      obtain ⟨hsx, hshx⟩ := (unhide HXZ) wr hbr t hlt
      obtain ⟨⟨ac, nc, cc, hc⟩, ⟨aa, na, ca, ha⟩⟩ := And.intro hsx.shc hsx.sha
      obtain ⟨ar, cr, hr⟩ := hsx.rs.shape
      obtain ⟨aw, cw, hw⟩ := hsx.ws.shape
      obtain ⟨nr, hnr⟩ : ∃ z, (L.getD t default).rs.length = z := ⟨_, rfl⟩
      obtain ⟨nw, hnw⟩ : ∃ z, (L.getD t default).ws.length = z := ⟨_, rfl⟩
      obtain ⟨sx, hs0⟩ : ∃ z, (L.getD t default).s = z := ⟨_, rfl⟩
      obtain ⟨rx, hr0⟩ : ∃ z, (L.getD t default).r = z := ⟨_, rfl⟩
      rw [hnr] at hr
      rw [hnw] at hw
      rw [hs0] at g0
      rw [hr0] at g1
      rw [hc] at g2
      rw [ha] at g3
      rw [hr] at g4
      rw [hw] at g5
      have hxV : xV (L.getD t default) = .agg #[.int .i64 sx, .int .i64 rx, .slice ac nc cc, .slice aa na ca, .slice ar nr cr, .slice aw nw cw] := by unfold xV; rw [hc, ha, hr, hw, hs0, hr0]
      obtain ⟨y1, hy1⟩ : ∃ y, wr.alloc (.cells #[.int .i64 sx, .int .i64 rx, .slice ac nc cc, .slice aa na ca, .slice ar nr cr, .slice aw nw cw] 26) = y := ⟨_, rfl⟩
      have b1 : Below wr.heap.size wr y1 := hy1 ▸ below_box _
      have x1 : y1.heap[wr.heap.size]? = some (.cells #[.int .i64 sx, .int .i64 rx, .slice ac nc cc, .slice aa na ca, .slice ar nr cr, .slice aw nw cw] 26) := by rw [← hy1]; exact heap_alloc_new wr _
      have xb : wr.heap[g + 1]? = some (.cells #[.slice (some ⟨g, 0, none⟩) m m] 63) := (hbr.block _ (by have := (unhide H0).2.2.2; omega) (by omega)).trans (unhide H0).2.1
      have HD : Hid (∀ z, Below y1.heap.size y1 z → z.heap[wr.heap.size]? = some (.cells #[.int .i64 sx, .int .i64 rx, .slice ac nc cc, .slice aa na ca, .slice ar nr cr, .slice aw nw cw] 26) ∧ z.cell? ⟨g + 1, 0, none⟩ = some (.slice (some ⟨g, 0, none⟩) m m)) := fun z hz => ⟨(hz.block _ (Array.getElem?_eq_some_iff.1 x1).1).trans x1, cell_at ((hz.block _ (Nat.lt_of_lt_of_le (Array.getElem?_eq_some_iff.1 xb).1 b1.size)).trans ((b1.block _ (Array.getElem?_eq_some_iff.1 xb).1).trans xb))⟩
      have HLK : Hid (∀ z, Below y1.heap.size y1 z → Calls Try.prog 14 #[.agg #[.int .i64 sx, .int .i64 rx, .slice ac nc cc, .slice aa na ca, .slice ar nr cr, .slice aw nw cw]] z fun e w' => ∃ v, e = .returned v ∧ w'.ownsRow z.heap.size 39 3 v (lkX (L.getD t default)).length ((lkX (L.getD t default)).flatMap lC) ∧ Below z.heap.size z w') := fun z hz => by rw [← hxV]; exact lkX_any ((hsx.below b1).below hz) hshx
      have H1 := hide (And.intro hrow (And.intro hrl (And.intro how (And.intro hbr b1))))
      have HY1 := hide hy1
      have hlt0 : (t : Int) < (m : Int) := by omega
      clear hll hsx hshx hc ha hr hw hnr hnw hs0 hr0 hxV hy1 b1 x1 xb hrow hrl how hbr
      go_wp2_with (rw [unhide HY1])
      have t0 : Below y1.heap.size y1 y1.drew := (Below.refl _ _).drew
      refine wp_region_held_drew (S := fun x => x.heap[wr.heap.size]? = some (.cells #[.int .i64 sx, .int .i64 rx, .slice ac nc cc, .slice aa na ca, .slice ar nr cr, .slice aw nw cw] 26) ∧ x.cell? ⟨g + 1, 0, none⟩ = some (.slice (some ⟨g, 0, none⟩) m m)) (by kernel_rfl) ((unhide HD) _ t0) (fun hHeld => ?_)
      refine wpAnyH_take (i := 0) (v := (.slice (some ⟨g, 0, none⟩) m m)) rfl (by kernel_rfl) (by kernel_rfl) (by kernel_rfl) (fun _ _ _ h => h) (Or.inl ⟨by rfl, ?hy1x0⟩) (by assumption) ?rest1x0
      case hy1x0 => intro w hSw; obtain ⟨s1, s2⟩ := hSw; go_simp <;> with_reducible rfl
      simp only [Act.put, List.getElem_toArray, List.getElem_cons_zero, List.setIfInBounds_toArray, List.set_cons_zero, List.set_cons_succ]
      refine wpAnyH_take (i := 1) (v := ?v2x1) rfl (by kernel_rfl) (by kernel_rfl) (by kernel_rfl) (fun _ _ _ h => h) (Or.inl ⟨by rfl, ?hy2x1⟩) (by assumption) ?rest2x1
      case hy2x1 => intro w hSw; go_simp <;> with_reducible rfl
      simp only [Act.put, List.getElem_toArray, List.getElem_cons_zero, List.getElem_cons_succ, List.setIfInBounds_toArray, List.set_cons_zero, List.set_cons_succ]
      refine wpAnyH_take (i := 2) (v := (.agg #[.int .i64 sx, .int .i64 rx, .slice ac nc cc, .slice aa na ca, .slice ar nr cr, .slice aw nw cw])) rfl (by kernel_rfl) (by kernel_rfl) (by kernel_rfl) (fun _ _ _ h => h) (Or.inl ⟨by rfl, ?hy3x2⟩) (by assumption) ?rest3x2
      case hy3x2 => intro w hSw; obtain ⟨s1, s2⟩ := hSw; have q0 := cell_at (o := 0) s1; have q1 := cell_at (o := 1) s1; have q2 := cell_at (o := 2) s1; have q3 := cell_at (o := 3) s1; have q4 := cell_at (o := 4) s1; have q5 := cell_at (o := 5) s1; go_simp <;> with_reducible rfl
      simp only [Act.put, List.getElem_toArray, List.getElem_cons_zero, List.getElem_cons_succ, List.setIfInBounds_toArray, List.set_cons_zero, List.set_cons_succ]
      refine wpAnyH_ready (rs := [3]) (by kernel_rfl) (by simp) ?_
      refine AllReadyH.cons rfl (fun K hK => ?_) AllReadyH.nil
      go_simp
      refine ((unhide HLK) _ t0).mono ?_
      rintro e w4 ⟨v4, rfl, ho4, hb4⟩
      refine hK _ _ ((unhide HD) w4 (t0.trans (hb4.mono t0.size))) ?_
      clear hK hHeld
      have t4 : Below y1.heap.size y1 w4 := t0.trans (hb4.mono t0.size)
      intro hHeld
      refine wpAnyH_take (i := 4) (v := ?v4x4) rfl (by kernel_rfl) (by kernel_rfl) (by kernel_rfl) (fun _ _ _ h => h) (Or.inl ⟨by rfl, ?hy4x4⟩) (by assumption) ?rest4x4
      case hy4x4 => intro w hSw; go_simp <;> with_reducible rfl
      simp only [Act.put, List.getElem_toArray, List.getElem_cons_zero, List.getElem_cons_succ, List.setIfInBounds_toArray, List.set_cons_zero, List.set_cons_succ]
      obtain ⟨hrow, hrl, how, hbr, b1⟩ := unhide H1
      have b4 : Below wr.heap.size wr w4 := b1.trans (t4.mono b1.size)
      have hgw : g < wr.heap.size := (Array.getElem?_eq_some_iff.1 hrow).1
      have hrow4 : w4.heap[g]? = some (.cells rows.toArray 35) := (b4.block _ hgw).trans hrow
      obtain ⟨la, lc, hv4⟩ := own_shape ho4
      obtain ⟨ln, hln⟩ : ∃ z, (lkX (L.getD t default)).length = z := ⟨_, rfl⟩
      rw [hln] at hv4
      subst hv4
      have htr : t < rows.length := by omega
      have c4 : w4.cell? ⟨g, t, none⟩ = some rows[t] := by rw [cell_at hrow4]; simp [htr]
      have f4 : w4.frozen? ⟨g, t, none⟩ = false := frozen_of_heap hrow4
      obtain ⟨w5, hw5⟩ : ∃ z, w4.setCell ⟨g, t, none⟩ (.slice la ln lc) = z := ⟨_, rfl⟩
      have hb5 : But g w4 w5 := hw5 ▸ (But.refl g w4).setCell
      have hrow5 : w5.heap[g]? = some (.cells (rows.set t (.slice la ln lc)).toArray 35) := by rw [← hw5, heap_setCell_same w4 _ _ _ _ _ hrow4]; simp
      have hgY : g + 2 ≤ wr.heap.size := by have h1 := (unhide H0).2.2.2; have h2 := hbr.size; omega
      have hgd : ∀ i, (rows.set t (.slice la ln lc)).getD i undef = if i = t then .slice la ln lc else rows.getD i undef := fun i => by
        simp only [List.getD_eq_getElem?_getD, List.getElem?_set]
        by_cases e : t = i
        · subst e; simp [htr]
        · rw [if_neg e, if_neg (Ne.symm e)]
      have how5 : ∀ i, i < t + 1 → w5.ownsRow (g + 2) 39 3 ((rows.set t (.slice la ln lc)).getD i undef) (lkX (L.getD i default)).length ((lkX (L.getD i default)).flatMap lC) := fun i hi => by
        rw [hgd]
        by_cases e : i = t
        · subst e
          rw [if_pos rfl]
          have h := own_mono ho4 (Nat.le_trans hgY (Nat.le_trans b1.size t0.size))
          exact own_but2 hb5 (Nat.lt_succ_of_lt (Nat.lt_succ_self g)) (Nat.le_refl _) (hln ▸ h)
        · rw [if_neg e]
          exact own_but2 hb5 (Nat.lt_succ_of_lt (Nat.lt_succ_self g)) (Nat.le_refl _) (own_below (how i (by omega)) b4)
      have hS5 : w5.heap[wr.heap.size]? = some (.cells #[.int .i64 sx, .int .i64 rx, .slice ac nc cc, .slice aa na ca, .slice ar nr cr, .slice aw nw cw] 26) ∧ w5.cell? ⟨g + 1, 0, none⟩ = some (.slice (some ⟨g, 0, none⟩) m m) := by
        obtain ⟨s1, s2⟩ := (unhide HD) w4 t4
        refine ⟨(hb5.block _ (Array.getElem?_eq_some_iff.1 s1).1 (by omega)).trans s1, ?_⟩
        have h1 := World.block_lt_of_cell? w4 _ s2
        have h2 : w5.heap[g + 1]? = w4.heap[g + 1]? := hb5.block _ h1 (by omega)
        have h3 : w5.cell? ⟨g + 1, 0, none⟩ = w4.cell? ⟨g + 1, 0, none⟩ := by unfold World.cell?; simp only [h2]
        rw [h3]; exact s2
      have HG := hide (And.intro hrow5 (And.intro (show (rows.set t (.slice la ln lc)).length = m by rw [List.length_set]; exact hrl) (And.intro how5 ((hbr.below' b4).trans hb5))))
      have HW5 := hide hw5
      clear hrow hrl how hbr b1 b4 hgw hrow4 ho4 hln hb5 hrow5 hgY hgd how5 hw5 hb4
      refine wpAnyH_ready (rs := [5]) (by kernel_rfl) (by simp) ?_
      refine AllReadyH.cons rfl (fun K hK => ?_) AllReadyH.nil
      go_simp
      rw [unhide HW5]
      refine hK _ _ hS5 ?_
      clear hK hHeld
      intro hHeld
      refine wpAnyH_done (by kernel_rfl) ?_ _
      clear hHeld hS5 c4 f4 t0 t4 htr
      go_wp2
      go_roundw
      case rel => exact ⟨t + 1, by omega, by go_num, _, (unhide HG).1, (unhide HG).2.1, (unhide HG).2.2.1, (unhide HG).2.2.2⟩
      case measure => simp [intOf]; omega
    · obtain rfl : t = m := by omega
      obtain ⟨rY, xY, bY, zY⟩ := unhide H0
      have hxb : wr.heap[g + 1]? = some (.cells #[.slice (some ⟨g, 0, none⟩) t t] 63) := (hbr.block _ (by omega) (by omega)).trans xY
      have hW : Wants g wr g t L rows := ⟨hxb, hrow, hrl, fun i hi => own_mono (how i hi) (by omega)⟩
      have hB : Below g w wr := ⟨hbr.os.trans bY.os, hbr.tape.trans bY.tape, hbr.output.trans bY.output, Nat.le_trans bY.size hbr.size, fun j hj => (hbr.block j (by omega) (by omega)).trans (bY.block j (by rw [unhide HG]; exact hj))⟩
      have HF := hide (And.intro hW hB)
      clear rY xY bY zY hxb hW hB hrow hrl how hbr
      go_wp2
      go_ret
      exact ⟨rfl, ⟨rows, (unhide HF).1⟩, (unhide HF).2⟩
end Go.Proofs.Ytibjhjkeflbghaa
