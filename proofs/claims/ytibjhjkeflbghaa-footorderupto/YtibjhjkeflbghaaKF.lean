/- Several texts as one. -/
import Derived.Test.YtibjhjkeflbghaaKE
import Derived.Test.YtibjhjkeflbghaaA4

/- Levels. -/
namespace Go.Proofs.Ytibjhjkeflbghaa
open Go.RowKit
set_option maxRecDepth 100000

/-- A transaction as it lies in memory: its four slices, and what its keys are. -/
structure Tx where
  s : Int
  r : Int
  cv : Value
  av : Value
  rv : Value
  wv : Value
  rs : List Ky
  ws : List Ky
instance : Inhabited Tx := ⟨⟨0, 0, .slice none 0 0, .slice none 0 0, .slice none 0 0, .slice none 0 0, [], []⟩⟩
def xC (x : Tx) : List Value := [.int .i64 x.s, .int .i64 x.r, x.cv, x.av, x.rv, x.wv]
theorem xC_len (x : Tx) : (xC x).length = 6 := rfl
def xV (x : Tx) : Value := .agg #[.int .i64 x.s, .int .i64 x.r, x.cv, x.av, x.rv, x.wv]
/-- What a transaction's keys are, seen. -/
structure SeesX (w : World) (x : Tx) : Prop where
  rs : SeesL kC 2 w x.rv x.rs
  ws : SeesL kC 2 w x.wv x.ws
  okr : ∀ k ∈ x.rs, OkK k
  okw : ∀ k ∈ x.ws, OkK k
  lr : x.rs.length ≤ 8796093021952
  lw : x.ws.length ≤ 8796093021952
  shc : ∃ a n c, x.cv = .slice a n c
  sha : ∃ a n c, x.av = .slice a n c
/-- So few keys that their locks can be made. -/
def Short (x : Tx) : Prop := x.rs.length + x.ws.length ≤ 4398046511104
theorem SeesX.below {w w' : World} {x : Tx} (h : SeesX w x) (hb : Below w.heap.size w w') : SeesX w' x := { h with rs := h.rs.below kC_len hb, ws := h.ws.below kC_len hb }
theorem SeesX.keep {w w' : World} {x : Tx} (h : SeesX w x) (hc : ∀ p v, w.cell? p = some v → w'.cell? p = some v) : SeesX w' x := { h with rs := h.rs.keep kC_len hc, ws := h.ws.keep kC_len hc }
def lkX (x : Tx) : List Lk := lks x.rs x.ws
theorem lkX_ok {w : World} {x : Tx} (h : SeesX w x) : ∀ y ∈ lkX x, OkK y.1 := fun y hy => by
  obtain ⟨k, hk, rfl⟩ := List.mem_map.1 hy
  rcases List.mem_append.1 ((srt_mem k _).1 hk) with c | c
  · exact h.okr k c
  · exact h.okw k c
theorem lkX_len {x : Tx} (h : Short x) : (lkX x).length ≤ 4398046511104 := Nat.le_trans (lks_len _ _) h
theorem lkX_any {x : Tx} {w : World} (h : SeesX w x) (hl : Short x) : Calls Try.prog 14 #[xV x] w fun e w' => ∃ v, e = .returned v ∧ w'.ownsRow w.heap.size 39 3 v (lkX x).length ((lkX x).flatMap lC) ∧ Below w.heap.size w w' :=
  locks_call h.rs h.ws h.okr h.okw hl
/-- Levels, one by one: what is kept by keys, and what came out. -/
def stepP (st : Lst × List Int) (x : Tx) : Lst × List Int := (raiseP st.1 (levelP st.1 (lkX x) + 1) (lkX x), st.2 ++ [levelP st.1 (lkX x)])
def runP (l : List Tx) : Lst × List Int := l.foldl stepP (fun _ => (0, 0), [])
def levelsP (l : List Tx) : List Int := (runP l).2
theorem runP_snoc (l : List Tx) (x : Tx) : runP (l ++ [x]) = stepP (runP l) x := by simp [runP]
theorem runP_len (l : List Tx) : (runP l).2.length = l.length := by
  have : ∀ (l : List Tx) st, (l.foldl stepP st).2.length = st.2.length + l.length := fun l => by
    induction l with
    | nil => simp
    | cons x r ih => intro st; rw [List.foldl_cons, ih]; simp [stepP]; omega
  simpa [runP] using this l (fun _ => (0, 0), [])
/-- All that is kept is at most so much. -/
def Lo (B : Int) (g : Lst) : Prop := ∀ k, 0 ≤ (g k).1 ∧ (g k).1 ≤ B ∧ 0 ≤ (g k).2 ∧ (g k).2 ≤ B
theorem levelP_le {B : Int} {g : Lst} (h : Lo B g) (hB : 0 ≤ B) (l : List Lk) : 0 ≤ levelP g l ∧ levelP g l ≤ B := by
  have : ∀ (l : List Lk) (a : Int), 0 ≤ a → a ≤ B → 0 ≤ l.foldl (fun lv x => max lv (if x.2 then (g x.1).2 else (g x.1).1)) a ∧ l.foldl (fun lv x => max lv (if x.2 then (g x.1).2 else (g x.1).1)) a ≤ B := fun l => by
    induction l with
    | nil => intro a h1 h2; exact ⟨h1, h2⟩
    | cons x r ih =>
      intro a h1 h2
      rw [List.foldl_cons]
      have := h x.1
      refine ih _ ?_ ?_ <;> split <;> omega
  exact this l 0 (by omega) hB
theorem raiseP_lo {B : Int} {lv : Int} (h0 : 0 ≤ lv) (hB : lv ≤ B) : ∀ (l : List Lk) (g : Lst), Lo B g → Lo B (raiseP g lv l) := fun l => by
  induction l with
  | nil => intro g h; exact h
  | cons x r ih =>
    intro g h
    refine ih _ fun k => ?_
    have e : raise1 g lv x k = if k = x.1 then (if x.2 then lv else (g k).1, max (g k).2 lv) else g k := rfl
    have := h k
    show 0 ≤ (raise1 g lv x k).1 ∧ (raise1 g lv x k).1 ≤ B ∧ 0 ≤ (raise1 g lv x k).2 ∧ (raise1 g lv x k).2 ≤ B
    rw [e]
    by_cases c : k = x.1
    · rw [if_pos c]
      simp only
      split <;> omega
    · rw [if_neg c]
      exact this
theorem runP_lo : ∀ (l : List Tx), Lo l.length (runP l).1 := fun l => by
  have : ∀ (m : Nat), m ≤ l.length → Lo m (runP (l.take m)).1 := fun m => by
    induction m with
    | zero => intro _ k; simp [runP]
    | succ m ih =>
      intro hm
      have h := ih (by omega)
      rw [List.take_succ_eq_append_getElem (by omega), runP_snoc]
      have hl := levelP_le h (by omega) (lkX l[m])
      refine raiseP_lo (by omega) (by omega) _ _ fun k => ?_
      have := h k
      omega
  simpa using this l.length (Nat.le_refl _)
end Go.Proofs.Ytibjhjkeflbghaa

/- The locks of one partition: the program's At. -/
namespace Go.Proofs.Ytibjhjkeflbghaa
open Go.RowKit
set_option maxRecDepth 100000

/-- The locks that are a partition's. -/
def atP (p n : Int) (l : List Lk) : List Lk := l.filter fun x => decide (partF x.1 n = p)
theorem atP_snoc (p n : Int) (l : List Lk) (x : Lk) : atP p n (l ++ [x]) = if partF x.1 n = p then atP p n l ++ [x] else atP p n l := by
  unfold atP
  rw [List.filter_append]
  by_cases h : partF x.1 n = p <;> simp [h]
theorem atP_len (p n : Int) (l : List Lk) : (atP p n l).length ≤ l.length := List.length_filter_le _ _

set_option maxHeartbeats 3200000 in
theorem at_any {x : Tx} {w : World} (p n : Int) (hx : SeesX w x) (hsh : Short x) :
    Calls Try.prog 16 #[xV x, .int .i64 p, .int .i64 n] w fun e w' => ∃ r, e = .returned r ∧ w'.ownsRow w.heap.size 39 3 r (atP p n (lkX x)).length ((atP p n (lkX x)).flatMap lC) ∧ Below w.heap.size w w' := by
  obtain ⟨⟨ac, nc, cc, hc⟩, ⟨aa, na, ca, ha⟩⟩ := And.intro hx.shc hx.sha
  obtain ⟨ar, cr, hr⟩ := hx.rs.shape
  obtain ⟨aw, cw, hw⟩ := hx.ws.shape
  obtain ⟨nr, hnr⟩ : ∃ z, x.rs.length = z := ⟨_, rfl⟩
  obtain ⟨nw, hnw⟩ : ∃ z, x.ws.length = z := ⟨_, rfl⟩
  obtain ⟨s, hs⟩ : ∃ z, x.s = z := ⟨_, rfl⟩
  obtain ⟨r, hrr⟩ : ∃ z, x.r = z := ⟨_, rfl⟩
  rw [hnr] at hr
  rw [hnw] at hw
  have hxV : xV x = .agg #[.int .i64 s, .int .i64 r, .slice ac nc cc, .slice aa na ca, .slice ar nr cr, .slice aw nw cw] := by unfold xV; rw [hc, ha, hr, hw, hs, hrr]
  obtain ⟨Y, hY⟩ : ∃ y, w.alloc (.cells #[.int .i64 s, .int .i64 r, .slice ac nc cc, .slice aa na ca, .slice ar nr cr, .slice aw nw cw] 26) = y := ⟨_, rfl⟩
  have bY : Below w.heap.size w Y := hY ▸ below_box _
  have xY : Y.heap[w.heap.size]? = some (.cells #[.int .i64 s, .int .i64 r, .slice ac nc cc, .slice aa na ca, .slice ar nr cr, .slice aw nw cw] 26) := hY ▸ heap_alloc_new w _
  have q0 : Y.cell? ⟨w.heap.size, 0, none⟩ = _ := cell_at xY
  have q1 : Y.cell? ⟨w.heap.size, 1, none⟩ = _ := cell_at xY
  have q2 : Y.cell? ⟨w.heap.size, 2, none⟩ = _ := cell_at xY
  have q3 : Y.cell? ⟨w.heap.size, 3, none⟩ = _ := cell_at xY
  have q4 : Y.cell? ⟨w.heap.size, 4, none⟩ = _ := cell_at xY
  have q5 : Y.cell? ⟨w.heap.size, 5, none⟩ = _ := cell_at xY
  have h14 := lkX_any (hx.below bY) hsh
  have hok := lkX_ok hx
  have hll := lkX_len hsh
  obtain ⟨L, hL⟩ : ∃ L, lkX x = L := ⟨_, rfl⟩
  obtain ⟨m, hm⟩ : ∃ m, L.length = m := ⟨_, rfl⟩
  rw [hL] at hok hll h14 ⊢
  rw [hm] at hll h14
  rw [hxV] at h14 ⊢
  have H14 := hide h14
  have HOK := hide hok
  have HM := hide hm
  have HBY := hide bY
  have HY := hide hY
  clear hx hsh hc ha hr hw hnr hnw hs hrr hxV bY xY h14 hok hL hm hY
  simp only [List.getElem?_toArray, List.getElem?_cons_zero, List.getElem?_cons_succ] at q0 q1 q2 q3 q4 q5
  go_enter Try.func16, Try.ntmps16
  go_wp2_with (first | rw [unhide HY] | (go_at_call 14; refine (unhide H14).mono ?_; rintro e w1 ⟨v1, rfl, ho1, hb1⟩; have HO1 := hide ho1; have HB1 := hide hb1; obtain ⟨a1, k1, e1⟩ := own_shape ho1; subst e1; clear ho1 hb1 H14))
  have HSL : Hid (∀ z, Below w1.heap.size w1 z → SeesL lC 3 z (.slice a1 m k1) L) := fun z hz => (own_sees lC_len (by decide) (unhide HO1)).2.below lC_len hz
  have HBW : Hid (Below w.heap.size w w1) := (unhide HBY).trans ((unhide HB1).mono (unhide HBY).size)
  clear q0 q1 q2 q3 q4 q5
  go_loopw [7, 13] (fun o c wr => ∃ t k : Nat, t ≤ m ∧ c = .int .i64 t ∧ wr.ownsRow w1.heap.size 39 3 o k ((atP p n (L.take t)).flatMap lC) ∧ Below w1.heap.size w1 wr) (fun _ c _ => m - (intOf c).toNat)
  case atStart => exact ⟨0, 0, by omega, rfl, own_nil _ _ _ _, Below.refl _ _⟩
  case round =>
    obtain ⟨t, k, ht, rfl, hor, hbr⟩ := hrel
    have hk : k = (atP p n (L.take t)).length := (own_sees lC_len (by decide) hor).1
    obtain ⟨av, cv, hov⟩ := own_shape hor
    by_cases hlt : t < m
    · have hml := unhide HM
      have htl : t < L.length := by omega
      obtain ⟨gb, ob, hao, g1, g2, g3⟩ := lock_cells (unhide HSL wr hbr) rfl htl
      subst hao
      obtain ⟨⟨⟨a, b⟩, d⟩, hx⟩ : ∃ k, L.getD t default = k := ⟨_, rfl⟩
      have hx' : L[t] = ((a, b), d) := by rw [← hx]; simp [List.getD, htl]
      rw [hx] at g1 g2 g3
      have htk : atP p n (L.take (t + 1)) = if partF (a, b) n = p then atP p n (L.take t) ++ [((a, b), d)] else atP p n (L.take t) := by rw [List.take_succ_eq_append_getElem htl, hx', atP_snoc]
      have hle : (atP p n (L.take t)).length ≤ t := Nat.le_trans (atP_len _ _ _) (by simp; omega)
      obtain ⟨y1, hy1⟩ : ∃ y, wr.alloc (.cells #[.int .i32 a, .int .i64 b, .bool d] 39) = y := ⟨_, rfl⟩
      have b1 : Below wr.heap.size wr y1 := hy1 ▸ below_box _
      have x1 : y1.heap[wr.heap.size]? = some (.cells #[.int .i32 a, .int .i64 b, .bool d] 39) := by rw [← hy1]; exact heap_alloc_new wr _
      have d1 : y1.cell? ⟨wr.heap.size, 0, none⟩ = some (.int .i32 a) := cell_at x1
      have d2 : y1.cell? ⟨wr.heap.size, 1, none⟩ = some (.int .i64 b) := cell_at x1
      have HP := hide (part_any a b n y1)
      obtain ⟨P, hP⟩ : ∃ P, partF (a, b) n = P := ⟨_, rfl⟩
      rw [hP] at HP htk
      have HF : Hid (∀ z, Below y1.heap.size y1 z → (z.cell? ⟨wr.heap.size, 0, none⟩ = some (.int .i32 a) ∧ z.cell? ⟨wr.heap.size, 1, none⟩ = some (.int .i64 b) ∧ z.cell? ⟨wr.heap.size, 2, none⟩ = some (.bool d)) ∧ z.ownsRow w1.heap.size 39 3 u7 k ((atP p n (L.take t)).flatMap lC) ∧ Below w1.heap.size w1 z) := fun z hz => by
        have h := (hz.block _ (Array.getElem?_eq_some_iff.1 x1).1).trans x1
        have hb := b1.trans (hz.mono b1.size)
        exact ⟨⟨cell_at h, cell_at h, cell_at h⟩, own_below hor hb, hbr.trans (hb.mono hbr.size)⟩
      have HTK := hide htk
      have HY1 := hide hy1
      have HKL : Hid (k ≤ t) := hk ▸ hle
      subst hov
      clear hml htl hx hx' htk hle b1 x1 hP hk hy1 hor hbr
      by_cases hpp : P = p
      · have hE : (P == p) = true := by simpa using hpp
        rw [if_pos hpp] at HTK
        go_wp2_with (first | rw [unhide HY1] | (go_at_call 42; refine (unhide HP).mono ?_; rintro e w2 ⟨rfl, hg2⟩; have hb2 := hg2.below; obtain ⟨⟨c0, c1, c2⟩, ho2, hw2⟩ := (unhide HF) w2 hb2; obtain ⟨v', y5, r5, o5, g5⟩ := append_locks 35 (own_below (own_mono ho2 (Nat.le_refl _)) ((below_box (w := w2) (.cells #[.int .i32 a, .int .i64 b, .bool d] 39)).mono (Nat.le_refl _))) (sees_oneL w2 ((a, b), d)) (by simp only [List.length_cons, List.length_nil]; have := unhide HKL; omega) (Nat.le_trans hw2.size (by simp)); have hb5 : Below w1.heap.size w1 y5 := (hw2.trans ((below_box (w := w2) (.cells #[.int .i32 a, .int .i64 b, .bool d] 39)).mono hw2.size)).trans ((Below.refl _ _).grown g5 (Nat.le_trans hw2.size (by simp)) (own_block_le ho2)); obtain ⟨a5, k5, e5⟩ := own_shape o5; have HG := hide (And.intro o5 hb5); have e5' : v' = .slice a5 (k + 1) k5 := e5; subst e5'; have HR5 := hide r5; clear hg2 hb2 ho2 hw2 o5 g5 hb5 e5 r5) | (at_builtin; refine wpList_append_run rfl _ _ 35 35 rfl rfl rfl (unhide HR5) ?_))
        go_roundw
        case rel => exact ⟨t + 1, k + 1, by omega, by go_num, by rw [unhide HTK]; exact (unhide HG).1, (unhide HG).2⟩
        case measure => simp [intOf]; omega
      · have hE : (P == p) = false := by simpa using hpp
        rw [if_neg hpp] at HTK
        go_wp2_with (first | rw [unhide HY1] | (go_at_call 42; refine (unhide HP).mono ?_; rintro e w2 ⟨rfl, hg2⟩; have hb2 := hg2.below; have HG := hide ((unhide HF) w2 hb2).2; clear hg2 hb2))
        go_roundw
        case rel => exact ⟨t + 1, k, by omega, by go_num, by rw [unhide HTK]; exact (unhide HG).1, (unhide HG).2⟩
        case measure => simp [intOf]; omega
    · obtain rfl : t = m := by omega
      have hml := unhide HM
      rw [List.take_of_length_le (by omega)] at hor hk
      have HF := hide (And.intro (hk ▸ own_mono hor (unhide HBW).size : wr.ownsRow w.heap.size 39 3 u7 (atP p n L).length ((atP p n L).flatMap lC)) ((unhide HBW).trans (hbr.mono (unhide HBW).size)))
      subst hov
      clear hml hor hbr hk
      go_wp2
      go_ret
      exact ⟨_, rfl, (unhide HF).1, (unhide HF).2⟩
end Go.Proofs.Ytibjhjkeflbghaa
