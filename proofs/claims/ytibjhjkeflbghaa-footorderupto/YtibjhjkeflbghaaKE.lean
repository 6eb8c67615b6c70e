/- Several texts as one. -/
import Derived.Test.YtibjhjkeflbghaaL3

/- The level of who wants such locks; what they raise. -/
namespace Go.Proofs.Ytibjhjkeflbghaa
open Go.RowKit
set_option maxRecDepth 100000

/-- The least level of the next who wants a key: shared, alone. -/
abbrev Lst := Ky → Int × Int
def levelP (g : Lst) (l : List Lk) : Int := l.foldl (fun lv x => max lv (if x.2 then (g x.1).2 else (g x.1).1)) 0
def raise1 (g : Lst) (lv : Int) (x : Lk) : Lst := fun k => if k = x.1 then (if x.2 then lv else (g k).1, max (g k).2 lv) else g k
def raiseP (g : Lst) (lv : Int) (l : List Lk) : Lst := l.foldl (fun g x => raise1 g lv x) g
theorem levelP_snoc (g : Lst) (l : List Lk) (x : Lk) : levelP g (l ++ [x]) = max (levelP g l) (if x.2 then (g x.1).2 else (g x.1).1) := by simp [levelP]
theorem raiseP_snoc (g : Lst) (lv : Int) (l : List Lk) (x : Lk) : raiseP g lv (l ++ [x]) = raise1 (raiseP g lv l) lv x := by simp [raiseP]
def lstV (p : Int × Int) : Value := .agg #[.int .i64 p.1, .int .i64 p.2]
/-- A map in memory that holds these levels. -/
def MapL (w : World) (mb : Nat) (g : Lst) : Prop := ∃ f, MapS w mb f ∧ ∀ k, (f k).getD (lstV (0, 0)) = lstV (g k)
theorem MapL.below {w w' : World} {mb : Nat} {g : Lst} (h : MapL w mb g) (hb : Below w.heap.size w w') : MapL w' mb g := by
  obtain ⟨f, h1, h2⟩ := h
  exact ⟨f, h1.below hb, h2⟩
theorem MapL.keep {w w' : World} {mb : Nat} {g : Lst} (h : MapL w mb g) (hb : w'.heap[mb]? = w.heap[mb]?) : MapL w' mb g := by
  obtain ⟨f, h1, h2⟩ := h
  exact ⟨f, h1.keep hb, h2⟩
theorem Try.under82 : Try.prog.underlying 82 = some (.map 37 105) := by kernel_rfl
theorem MapL.look {w : World} {mb : Nat} {g : Lst} (h : MapL w mb g) (a b : Int) (hk : OkK (a, b)) :
    (Instr.lookup 82 (.map (some mb)) (.agg #[.int .i32 a, .int .i64 b]) false).run Try.prog w = .ok (.agg #[.int .i64 (g (a, b)).1, .int .i64 (g (a, b)).2]) w := by
  obtain ⟨f, h1, h2⟩ := h
  have := h1.look1 Try.under82 (z := lstV (0, 0)) Try.zeroValue105 a b hk
  rw [h2] at this
  exact this
theorem MapL.put {w : World} {mb : Nat} {g : Lst} (h : MapL w mb g) (a b : Int) (hk : OkK (a, b)) (s1 a1 : Int) :
    ∃ y, (Instr.mapUpdate 82 (.map (some mb)) (.agg #[.int .i32 a, .int .i64 b]) (.agg #[.int .i64 s1, .int .i64 a1])).run Try.prog w = .ok () y ∧ MapL y mb (fun k => if k = (a, b) then (s1, a1) else g k) ∧ (∀ j, j ≠ mb → y.heap[j]? = w.heap[j]?) ∧ y.heap.size = w.heap.size ∧ y.os = w.os ∧ y.tape = w.tape ∧ y.output = w.output := by
  obtain ⟨f, h1, h2⟩ := h
  obtain ⟨y, r, m, rest⟩ := h1.put Try.under82 a b hk (lstV (s1, a1))
  refine ⟨y, r, ⟨_, m, fun k => ?_⟩, rest⟩
  unfold putF
  by_cases hk : k = (a, b)
  · simp only [if_pos hk]; rfl
  · simp only [if_neg hk]; exact h2 k
theorem set_same {w : World} {b o : Nat} {cs : Array Value} {T : TypeId} {m : Nat × Nat} {v : Value} (h : w.heap[b]? = some (.cells cs T m)) (hv : cs[o]? = some v) : w.setCell ⟨b, o, none⟩ v = w := by
  have e : (w.setCell ⟨b, o, none⟩ v).heap = w.heap := by
    unfold World.setCell
    refine Array.ext_getElem? fun j => ?_
    simp only [Array.getElem?_modify]
    split
    · rename_i hj
      subst hj
      rw [h]
      simp only [Option.map_some, Option.isSome_none, Bool.false_eq_true, if_false, Option.some.injEq, Obj.cells.injEq, and_true]
      refine Array.ext_getElem? fun i => ?_
      rw [Array.getElem?_setIfInBounds]
      split
      · rename_i hi
        subst hi
        rw [if_pos (Array.getElem?_eq_some_iff.1 hv).1, hv]
      · rfl
    · rfl
  cases w
  unfold World.setCell at e ⊢
  simp only at e ⊢
  rw [e]
theorem field_sh (s a : Int) (w : World) : (Instr.field 105 (.agg #[.int .i64 s, .int .i64 a]) 0).run Try.prog w = .ok (.int .i64 s) w := by kernel_rfl
theorem field_al (s a : Int) (w : World) : (Instr.field 105 (.agg #[.int .i64 s, .int .i64 a]) 1).run Try.prog w = .ok (.int .i64 a) w := by kernel_rfl
theorem lock_cells {y : World} {v : Value} {l : List Lk} (hs : SeesL lC 3 y v l) {ao : Option Addr} {n cap : Nat} (hv : v = .slice ao n cap) {t : Nat} (ht : t < l.length) : ∃ gb ob, ao = some ⟨gb, ob, none⟩ ∧ y.cell? ⟨gb, ob + t * 3, none⟩ = some (.int .i32 (l.getD t default).1.1) ∧ y.cell? ⟨gb, ob + t * 3 + 1, none⟩ = some (.int .i64 (l.getD t default).1.2) ∧ y.cell? ⟨gb, ob + t * 3 + 2, none⟩ = some (.bool (l.getD t default).2) := by
  obtain ⟨ao', cap', gb, ob, hv', hao, hcl⟩ := SeesL.at hs
  rw [hv] at hv'
  simp only [Value.slice.injEq] at hv'
  obtain ⟨rfl, rfl, rfl⟩ := hv'
  exact ⟨gb, ob, hao (by omega), hcl t ht 0 (by omega), hcl t ht 1 (by omega), hcl t ht 2 (by omega)⟩

set_option maxHeartbeats 1600000 in
theorem levelOf_any {v : Value} {l : List Lk} {mb : Nat} {g : Lst} {w : World} (hs : SeesL lC 3 w v l) (hok : ∀ x ∈ l, OkK x.1) (hm : MapL w mb g) (hl : l.length ≤ 4398046511104) :
    Calls Try.prog 48 #[.map (some mb), v] w fun e w' => e = .returned (.int .i64 (levelP g l)) ∧ Below w.heap.size w w' := by
  have HS : Hid (∀ w', Below w.heap.size w w' → SeesL lC 3 w' v l) := fun w' hb => hs.below lC_len hb
  have HM : Hid (∀ w', Below w.heap.size w w' → MapL w' mb g) := fun w' hb => hm.below hb
  have HOK := hide hok
  obtain ⟨ao, cap, hv⟩ := hs.shape
  obtain ⟨n, hn⟩ : ∃ n, l.length = n := ⟨_, rfl⟩
  rw [hn] at hv
  have HN := hide hn
  rw [hn] at hl
  subst hv
  clear hs hm hok hn
  go_enter Try.func48, Try.ntmps48
  go_wp2
  go_loopw [5, 10] (fun o c wr => ∃ t : Nat, t ≤ n ∧ c = .int .i64 t ∧ o = .int .i64 (levelP g (l.take t)) ∧ Below w.heap.size w wr) (fun _ c _ => n - (intOf c).toNat)
  case atStart => exact ⟨0, by omega, rfl, by simp [levelP], Below.refl _ _⟩
  case round =>
    obtain ⟨t, ht, rfl, rfl, hbr⟩ := hrel
    have HB := hide hbr
    by_cases hlt : t < n
    · have hnl := unhide HN
      have htl : t < l.length := by omega
      obtain ⟨gb, ob, hao, g1, g2, g3⟩ := lock_cells (unhide HS wr hbr) rfl htl
      subst hao
      obtain ⟨⟨⟨a, b⟩, d⟩, hx⟩ : ∃ k, l.getD t default = k := ⟨_, rfl⟩
      have hx' : l[t] = ((a, b), d) := by rw [← hx]; simp [List.getD, htl]
      rw [hx] at g1 g2 g3
      have hokx : OkK (a, b) := by have := unhide HOK _ (List.getElem_mem htl); rw [hx'] at this; exact this
      have htk : levelP g (l.take (t + 1)) = max (levelP g (l.take t)) (if d then (g (a, b)).2 else (g (a, b)).1) := by rw [List.take_succ_eq_append_getElem htl, hx', levelP_snoc]
      have HTK := hide htk
      obtain ⟨y1, hy1⟩ : ∃ y, wr.alloc (.cells #[.int .i32 a, .int .i64 b, .bool d] 39) = y := ⟨_, rfl⟩
      have b1 : Below wr.heap.size wr y1 := hy1 ▸ below_box _
      have x1 : y1.heap[wr.heap.size]? = some (.cells #[.int .i32 a, .int .i64 b, .bool d] 39) := by rw [← hy1]; exact heap_alloc_new wr _
      have d1 : y1.cell? ⟨wr.heap.size, 0, none⟩ = some (.int .i32 a) := cell_at x1
      have d2 : y1.cell? ⟨wr.heap.size, 1, none⟩ = some (.int .i64 b) := cell_at x1
      have d3 : y1.cell? ⟨wr.heap.size, 2, none⟩ = some (.bool d) := cell_at x1
      have hL := (unhide HM y1 (hbr.trans (b1.mono hbr.size))).look a b hokx
      have HB1 : Hid (Below w.heap.size w y1) := hbr.trans (b1.mono hbr.size)
      obtain ⟨lv, hlv⟩ : ∃ x, levelP g (l.take t) = x := ⟨_, rfl⟩
      obtain ⟨⟨ps, pa⟩, hp⟩ : ∃ x, g (a, b) = x := ⟨_, rfl⟩
      rw [hlv, hp] at HTK
      rw [hp] at hL
      rw [hlv]
      clear hnl hx hx' hokx htk htl hbr b1 hlv hp
      have hsm : y1.setCell ⟨wr.heap.size, 2, none⟩ (.bool d) = y1 := set_same x1 rfl
      have hfz : y1.frozen? ⟨wr.heap.size, 2, none⟩ = false := frozen_of_heap x1
      have hf0 := field_sh ps pa
      have hf1 := field_al ps pa
      clear x1
      cases d with
      | true =>
        go_wp2_with (first | rw [hy1] | rw [hsm])
        go_roundw
        case rel => exact ⟨t + 1, by omega, by go_num, by rw [unhide HTK]; simp [Int.max_def], unhide HB1⟩
        case measure => simp [intOf]; omega
      | false =>
        go_wp2_with (first | rw [hy1] | rw [hsm])
        go_roundw
        case rel => exact ⟨t + 1, by omega, by go_num, by rw [unhide HTK]; simp [Int.max_def], unhide HB1⟩
        case measure => simp [intOf]; omega
    · obtain rfl : t = n := by omega
      have hnl := unhide HN
      rw [List.take_of_length_le (by omega)]
      clear hnl
      go_wp2
      go_ret
      exact ⟨rfl, unhide HB⟩
end Go.Proofs.Ytibjhjkeflbghaa

/- What those raise who come with such locks, on a level. -/
namespace Go.Proofs.Ytibjhjkeflbghaa
open Go.RowKit
set_option maxRecDepth 100000

theorem setCell_far {w : World} {g i h : Nat} {v : Value} (hn : h ≠ g) : (w.setCell ⟨g, i, none⟩ v).heap[h]? = w.heap[h]? := by
  unfold World.setCell
  simp only [Array.getElem?_modify]
  rw [if_neg (fun e => hn e.symm)]
theorem raise1_eq (g : Lst) (lv : Int) (k : Ky) (d : Bool) {ps pa : Int} (hp : g k = (ps, pa)) : raise1 g lv (k, d) = fun x => if x = k then (if d then lv else ps, max pa lv) else g x := funext fun x => by
  unfold raise1
  simp only
  by_cases h : x = k
  · rw [if_pos h, if_pos h, h, hp]
  · rw [if_neg h, if_neg h]

set_option maxHeartbeats 1600000 in
theorem raise_any {v : Value} {l : List Lk} {mb : Nat} {g : Lst} {w : World} (lv : Int) (hs : SeesL lC 3 w v l) (hok : ∀ x ∈ l, OkK x.1) (hm : MapL w mb g) (hl : l.length ≤ 4398046511104) :
    Calls Try.prog 49 #[.map (some mb), v, .int .i64 lv] w fun e w' => e = .returned (.tuple #[]) ∧ MapL w' mb (raiseP g lv l) ∧ But mb w w' := by
  have hfs : ∃ f, MapS w mb f := by obtain ⟨f, h1, _⟩ := hm; exact ⟨f, h1⟩
  have HS : Hid (∀ w', But mb w w' → SeesL lC 3 w' v l) := fun w' hb => by
    obtain ⟨f, h1⟩ := hfs
    exact hs.keep lC_len (hb.cell h1)
  have HOK := hide hok
  obtain ⟨ao, cap, hv⟩ := hs.shape
  obtain ⟨n, hn⟩ : ∃ n, l.length = n := ⟨_, rfl⟩
  rw [hn] at hv
  have HN := hide hn
  have HM := hide hm
  rw [hn] at hl
  subst hv
  clear hs hm hok hn hfs
  go_enter Try.func49, Try.ntmps49
  go_wp2
  go_loopw [11] (fun c wr => ∃ t : Nat, t ≤ n ∧ c = .int .i64 t ∧ MapL wr mb (raiseP g lv (l.take t)) ∧ But mb w wr) (fun c _ => n - (intOf c).toNat)
  case atStart => exact ⟨0, by omega, rfl, by simpa [raiseP] using unhide HM, But.refl _ _⟩
  case round =>
    obtain ⟨t, ht, rfl, hml, hbr⟩ := hrel
    have HB := hide hbr
    have HML := hide hml
    by_cases hlt : t < n
    · have hnl := unhide HN
      have htl : t < l.length := by omega
      obtain ⟨gb, ob, hao, g1, g2, g3⟩ := lock_cells (unhide HS wr hbr) rfl htl
      subst hao
      obtain ⟨⟨⟨a, b⟩, d⟩, hx⟩ : ∃ k, l.getD t default = k := ⟨_, rfl⟩
      have hx' : l[t] = ((a, b), d) := by rw [← hx]; simp [List.getD, htl]
      rw [hx] at g1 g2 g3
      have hokx : OkK (a, b) := by have := unhide HOK _ (List.getElem_mem htl); rw [hx'] at this; exact this
      obtain ⟨gg, hgg⟩ : ∃ x, raiseP g lv (l.take t) = x := ⟨_, rfl⟩
      have htk : raiseP g lv (l.take (t + 1)) = raise1 gg lv ((a, b), d) := by rw [List.take_succ_eq_append_getElem htl, hx', raiseP_snoc, hgg]
      rw [hgg] at hml
      obtain ⟨⟨ps, pa⟩, hp⟩ : ∃ x, gg (a, b) = x := ⟨_, rfl⟩
      rw [raise1_eq gg lv (a, b) d hp] at htk
      have HTK := hide htk
      obtain ⟨y1, hy1⟩ : ∃ y, wr.alloc (.cells #[.int .i32 a, .int .i64 b, .bool d] 39) = y := ⟨_, rfl⟩
      obtain ⟨y2, hy2⟩ : ∃ y, y1.alloc (.cells #[.int .i64 ps, .int .i64 pa] 105) = y := ⟨_, rfl⟩
      have b1 : Below wr.heap.size wr y1 := hy1 ▸ below_box _
      have z1 : y1.heap.size = wr.heap.size + 1 := by rw [← hy1]; simp
      have b2 : Below wr.heap.size wr y2 := hy2 ▸ b1.alloc b1.size _
      have x1 : y1.heap[wr.heap.size]? = some (.cells #[.int .i32 a, .int .i64 b, .bool d] 39) := by rw [← hy1]; exact heap_alloc_new wr _
      have x2 : y2.heap[wr.heap.size]? = some (.cells #[.int .i32 a, .int .i64 b, .bool d] 39) := by rw [← hy2]; exact (Below.heap_alloc y1 _ _ (by omega)).trans x1
      have u2 : y2.heap[y1.heap.size]? = some (.cells #[.int .i64 ps, .int .i64 pa] 105) := by rw [← hy2]; exact heap_alloc_new y1 _
      have hL := (hml.below b1).look a b hokx
      rw [hp] at hL
      obtain ⟨M, hM⟩ : ∃ m, max pa lv = m := ⟨_, rfl⟩
      obtain ⟨y3, hy3⟩ : ∃ y, y2.setCell ⟨y1.heap.size, 1, none⟩ (.int .i64 M) = y := ⟨_, rfl⟩
      have b3 : Below wr.heap.size wr y3 := hy3 ▸ b2.setCell b1.size _
      have x3 : y3.heap[wr.heap.size]? = some (.cells #[.int .i32 a, .int .i64 b, .bool d] 39) := by rw [← hy3, setCell_far (by omega)]; exact x2
      have u3 : y3.heap[y1.heap.size]? = some (.cells #[.int .i64 ps, .int .i64 M] 105) := by rw [← hy3, heap_setCell_same y2 _ _ _ _ _ u2]; rfl
      have p1 : y1.cell? ⟨wr.heap.size, 0, none⟩ = some (.int .i32 a) := cell_at x1
      have p2 : y1.cell? ⟨wr.heap.size, 1, none⟩ = some (.int .i64 b) := cell_at x1
      have p3 : y3.cell? ⟨wr.heap.size, 2, none⟩ = some (.bool d) := cell_at x3
      have q1 : y2.cell? ⟨y1.heap.size, 1, none⟩ = some (.int .i64 pa) := cell_at u2
      have q2 : y2.frozen? ⟨y1.heap.size, 1, none⟩ = false := frozen_of_heap u2
      cases d with
      | true =>
        obtain ⟨y4, hy4⟩ : ∃ y, y3.setCell ⟨y1.heap.size, 0, none⟩ (.int .i64 lv) = y := ⟨_, rfl⟩
        have b4 : Below wr.heap.size wr y4 := hy4 ▸ b3.setCell b1.size _
        have x4 : y4.heap[wr.heap.size]? = some (.cells #[.int .i32 a, .int .i64 b, .bool true] 39) := by rw [← hy4, setCell_far (by omega)]; exact x3
        have u4 : y4.heap[y1.heap.size]? = some (.cells #[.int .i64 lv, .int .i64 M] 105) := by rw [← hy4, heap_setCell_same y3 _ _ _ _ _ u3]; rfl
        have q3 : y3.frozen? ⟨y1.heap.size, 0, none⟩ = false := frozen_of_heap u3
        have q4 : y3.cell? ⟨y1.heap.size, 0, none⟩ = some (.int .i64 ps) := cell_at u3
        have r1 : y4.cell? ⟨wr.heap.size, 0, none⟩ = some (.int .i32 a) := cell_at x4
        have r2 : y4.cell? ⟨wr.heap.size, 1, none⟩ = some (.int .i64 b) := cell_at x4
        have r3 : y4.cell? ⟨y1.heap.size, 0, none⟩ = some (.int .i64 lv) := cell_at u4
        have r4 : y4.cell? ⟨y1.heap.size, 1, none⟩ = some (.int .i64 M) := cell_at u4
        obtain ⟨y5, r5, m5, o5, s5, t1, t2, t3⟩ := (hml.below b4).put a b hokx lv M
        have HF : Hid (MapL y5 mb (raiseP g lv (l.take (t + 1))) ∧ But mb w y5) := ⟨by rw [unhide HTK, hM]; exact m5, (hbr.below' b4).put o5 s5 t1 t2 t3⟩
        have HY1 := hide hy1
        clear hy1
        clear hnl hx hx' hokx htk htl hbr hml b1 b2 b3 b4 x1 x2 x3 x4 u2 u3 u4 z1 hp hgg m5 o5 s5 t1 t2 t3
        go_wp2_with (first | rw [unhide HY1] | rw [hy2] | rw [hM] | rw [hy3] | rw [hy4])
        go_roundw
        case rel => exact ⟨t + 1, by omega, by go_num, (unhide HF).1, (unhide HF).2⟩
        case measure => simp [intOf]; omega
      | false =>
        have r1 : y3.cell? ⟨wr.heap.size, 0, none⟩ = some (.int .i32 a) := cell_at x3
        have r2 : y3.cell? ⟨wr.heap.size, 1, none⟩ = some (.int .i64 b) := cell_at x3
        have r3 : y3.cell? ⟨y1.heap.size, 0, none⟩ = some (.int .i64 ps) := cell_at u3
        have r4 : y3.cell? ⟨y1.heap.size, 1, none⟩ = some (.int .i64 M) := cell_at u3
        obtain ⟨y5, r5, m5, o5, s5, t1, t2, t3⟩ := (hml.below b3).put a b hokx ps M
        have HF : Hid (MapL y5 mb (raiseP g lv (l.take (t + 1))) ∧ But mb w y5) := ⟨by rw [unhide HTK, hM]; exact m5, (hbr.below' b3).put o5 s5 t1 t2 t3⟩
        have HY1 := hide hy1
        clear hy1
        clear hnl hx hx' hokx htk htl hbr hml b1 b2 b3 x1 x2 x3 u2 u3 z1 hp hgg m5 o5 s5 t1 t2 t3
        go_wp2_with (first | rw [unhide HY1] | rw [hy2] | rw [hM] | rw [hy3])
        go_roundw
        case rel => exact ⟨t + 1, by omega, by go_num, (unhide HF).1, (unhide HF).2⟩
        case measure => simp [intOf]; omega
    · obtain rfl : t = n := by omega
      have hnl := unhide HN
      rw [List.take_of_length_le (by omega)] at hml
      have HF := hide hml
      clear hnl hml hbr
      go_wp2
      go_end0
      exact ⟨rfl, unhide HF, unhide HB⟩
end Go.Proofs.Ytibjhjkeflbghaa
