/- Several texts as one. -/
import Derived.Test.YtggllgimlfchhaaGreatZB
import Derived.Laws.Rows

/- Record: keys, read. -/
namespace Go.Proofs.YtggllgimlfchhaaGreat
open Go.RowKit
set_option maxRecDepth 100000

theorem But.same {R b : Nat} {w w' : World} (h : But R w w') {o : Obj} (hb : w.heap[b]? = some o) (hR : b ≠ R) : w'.heap[b]? = some o :=
  (h.block b (Array.getElem?_eq_some_iff.1 hb).1 hR).trans hb
theorem cell_of_heap {w : World} {b o : Nat} {cs : Array Value} {T : TypeId} (h : w.heap[b]? = some (.cells cs T)) : w.cell? ⟨b, o, none⟩ = cs[o]? := by
  simp [World.cell?, h]
theorem frozen_of_heap {w : World} {b o : Nat} {cs : Array Value} {T : TypeId} (h : w.heap[b]? = some (.cells cs T)) : w.frozen? ⟨b, o, none⟩ = false := by
  simp [World.frozen?, h]
theorem setCell_heap {w : World} {b o : Nat} {cs : Array Value} {T : TypeId} {u : Value} (h : w.heap[b]? = some (.cells cs T)) : (w.setCell ⟨b, o, none⟩ u).heap[b]? = some (.cells (cs.setIfInBounds o u) T) := by
  have hlt := (Array.getElem?_eq_some_iff.1 h).1
  have e : w.heap[b] = .cells cs T := by rw [Array.getElem?_eq_getElem hlt] at h; exact Option.some.inj h
  simp only [World.setCell]
  rw [Array.getElem?_eq_getElem (by simpa using hlt), Array.getElem_modify]
  simp [e]

theorem Rd.keep {w w' : World} {R lo : Nat} {zs : List Int} {er : Int} {un : Bool} (h : Rd w R lo zs er un) (hk : ∀ k, k = R ∨ k < lo → w'.heap[k]? = w.heap[k]?) : Rd w' R lo zs er un := by
  obtain ⟨v, h1, ao, cap, hv, hl, hn, ha⟩ := h.cb
  have c : ∀ o u, w.cell? ⟨R, o, none⟩ = some u → w'.cell? ⟨R, o, none⟩ = some u := fun o u e => (World.cell?_of_block (w := w) (hk R (.inl rfl))).trans e
  exact ⟨⟨v, c _ _ h1, ao, cap, hv, hl, hn, fun a e t ht => ⟨(World.cell?_of_block (w := w) (hk _ (.inr (ha a e t ht).2))).trans (ha a e t ht).1, (ha a e t ht).2⟩⟩, c _ _ h.ce, c _ _ h.cu, fun o => (World.frozen?_of_block (w := w) (hk R (.inl rfl))).trans (h.fr o), h.lt, h.byt, h.len⟩
theorem But.new {R b : Nat} {w w' : World} (h : But R w w') (hb : w.heap.size ≤ b) (o : Nat) (u : Value) : But R w (w'.setCell ⟨b, o, none⟩ u) :=
  ⟨h.os, h.tape, h.output, by have := h.size; simp only [World.setCell, Array.size_modify]; exact this, fun k hk hR => (Below.heap_setCell _ _ _ _ (fun e => by simp only at e; omega)).trans (h.block k hk hR)⟩
theorem Rd.other {w : World} {R lo b : Nat} {zs : List Int} {er : Int} {un : Bool} (h : Rd w R lo zs er un) (hb : R < b) (o : Nat) (u : Value) : Rd (w.setCell ⟨b, o, none⟩ u) R lo zs er un :=
  h.keep fun k hk => Below.heap_setCell _ _ _ _ (fun e => by simp only at e; have := h.lt; omega)

def RS.key (s : RS) : (Int × Int) × RS := ((s.fit32.1, s.fit32.2.num.1), s.fit32.2.num.2)
set_option maxHeartbeats 800000 in
theorem key_r {w : World} {R lo : Nat} {s : RS} (h : RdS w R lo s) :
    Calls Tryz.prog 137 #[.pointer (some ⟨R, 0, none⟩)] w fun e w' => e = .returned (.agg #[.int .i32 s.key.1.1, .int .i64 s.key.1.2]) ∧ RdS w' R lo s.key.2 ∧ But R w w' := by
  unfold RS.key
  simp only
  have hr := h.rlt
  have hal : Below w.heap.size w (w.alloc (.cells #[.int .i32 0, .int .i64 0] 90)) := (Below.refl _ _).alloc (Nat.le_refl _) _
  have HT := hide (fit32_r (h.below hal))
  have HB0 : Hid (But R w (w.alloc (.cells #[.int .i32 0, .int .i64 0] 90))) := But.of hal
  have HX : Hid ((w.alloc (.cells #[.int .i32 0, .int .i64 0] 90)).heap[w.heap.size]? = some (.cells #[.int .i32 0, .int .i64 0] 90)) := heap_alloc_new w _
  clear h hal
  generalize s.fit32 = p at HT ⊢
  obtain ⟨a, s1⟩ := p
  simp only at HT ⊢
  go_enter Tryz.func137, Tryz.ntmps137
  go_wp2_with fail
  refine (unhide HT).mono ?_
  rintro e w1 ⟨rfl, h1, h2⟩
  have HT2 := hide (num_r h1)
  have HB1 := hide ((unhide HB0).trans h2)
  have HX1 := hide (h2.same (unhide HX) (by omega))
  clear h1 h2 HT
  go_wp2_with fail
  refine (unhide HT2).mono ?_
  rintro e w2 ⟨rfl, h1, h2⟩
  have hx2 := h2.same (unhide HX1) (by omega)
  have q0 : w2.cell? ⟨w.heap.size, 0, none⟩ = some (.int .i32 0) := cell_of_heap hx2
  have q1 : w2.cell? ⟨w.heap.size, 1, none⟩ = some (.int .i64 0) := cell_of_heap hx2
  have fz : ∀ o, w2.frozen? ⟨w.heap.size, o, none⟩ = false := fun o => frozen_of_heap hx2
  have HX2 := hide hx2
  have HR2 := hide h1
  have HB2 := hide ((unhide HB1).trans h2)
  clear h1 h2 hx2 HT2
  go_wp2_with fail
  refine bodyPost_ret (results_cell_row rfl _ _ w.heap.size 90 #[.int .i32 a, .int .i64 s1.num.1] (0, 0) _ rfl (setCell_heap (setCell_heap (unhide HX2))) Tryz.underlying90 rfl (by kernel_rfl)) rfl ?_
  exact ⟨rfl, ((unhide HR2).other hr _ _).other hr _ _, ((unhide HB2).new (Nat.le_refl _) _ _).new (Nat.le_refl _) _ _⟩
end Go.Proofs.YtggllgimlfchhaaGreat

/- Record: lists, read. -/
namespace Go.Proofs.YtggllgimlfchhaaGreat
open Go.RowKit
set_option maxRecDepth 100000

/-- Up to k parts, up to the first error. -/
def RS.iter {α : Type} (take : RS → α × RS) : Nat → RS → List α × RS
  | 0, s => ([], s)
  | k + 1, s => if (RS.iter take k s).2.er = 0 then ((RS.iter take k s).1 ++ [(take (RS.iter take k s).2).1], (take (RS.iter take k s).2).2) else RS.iter take k s
def RS.len (s : RS) : RS := s.num.2.must (decide (0 ≤ s.num.1 ∧ s.num.1 ≤ 4096))
/-- A list. -/
def RS.list {α : Type} (take : RS → α × RS) (s : RS) : List α × RS := RS.iter take s.num.1.toNat s.len
theorem iter_step {α : Type} {take : RS → α × RS} {k : Nat} {s : RS} (h : (RS.iter take k s).2.er = 0) : RS.iter take (k + 1) s = ((RS.iter take k s).1 ++ [(take (RS.iter take k s).2).1], (take (RS.iter take k s).2).2) := by
  simp only [RS.iter, h, if_true]
theorem iter_stop {α : Type} {take : RS → α × RS} {k : Nat} {s : RS} (h : (RS.iter take k s).2.er ≠ 0) : ∀ j, RS.iter take (k + j) s = RS.iter take k s
  | 0 => rfl
  | j + 1 => by
    have ih := iter_stop h j
    rw [← Nat.add_assoc, RS.iter, ih, if_neg h]
theorem iter_len {α : Type} (take : RS → α × RS) (s : RS) : ∀ k, (RS.iter take k s).1.length ≤ k
  | 0 => Nat.le_refl _
  | k + 1 => by
    have ih := iter_len take s k
    by_cases h : (RS.iter take k s).2.er = 0
    · rw [iter_step h]; simp; omega
    · rw [iter_stop h 1]; omega
theorem iter_ok {α : Type} {take : RS → α × RS} (s : RS) : ∀ k, (RS.iter take k s).2.er = 0 → (∀ j, j ≤ k → (RS.iter take j s).2.er = 0)
  | 0, h, j, hj => by obtain rfl : j = 0 := by omega
                      exact h
  | k + 1, h, j, hj => by
    by_cases hk : (RS.iter take k s).2.er = 0
    · by_cases e : j = k + 1
      · rw [e]; exact h
      · exact iter_ok s k hk j (by omega)
    · rw [iter_stop hk 1] at h
      exact absurd h hk
theorem len_ok {s : RS} (h : s.len.er = 0) : 0 ≤ s.num.1 ∧ s.num.1 ≤ 4096 := by
  unfold RS.len at h
  by_cases c : 0 ≤ s.num.1 ∧ s.num.1 ≤ 4096
  · exact c
  · rw [decide_eq_false c] at h
    by_cases e : s.num.2.er = 0
    · rw [must_false _ e] at h; simp at h
    · rw [must_er _ _ e] at h; exact absurd h e
theorem list_len {α : Type} (take : RS → α × RS) (s : RS) : (s.list take).1.length ≤ 4096 := by
  by_cases h : s.len.er = 0
  · have := len_ok h
    have := iter_len take s.len s.num.1.toNat
    unfold RS.list
    omega
  · unfold RS.list
    have := iter_stop (take := take) (k := 0) (s := s.len) h s.num.1.toNat
    rw [Nat.zero_add] at this
    rw [this]
    simp [RS.iter]
theorem own_keepR {w w' : World} {base R e size : Nat} {v : Value} {n : Nat} {xs : List Value} (h : w.ownsRow base e size v n xs) (hk : But R w w') (hR : R < base) : w'.ownsRow base e size v n xs := by
  refine ⟨h.1, ?_⟩
  rcases h.2 with hn | ⟨g, cap, cur, hv, hg, hh, r⟩
  · exact .inl hn
  · exact .inr ⟨g, cap, cur, hv, hg, hk.same hh (by omega), r⟩
theorem But.grown {R lo : Nat} {a w w' : World} {v : Value} {e size n : Nat} {xs : List Value} (h : But R a w) (ho : w.ownsRow lo e size v n xs) (hlo : a.heap.size ≤ lo) (hg : w.grownBy w' v.ownBlock) : But R a w' :=
  ⟨hg.os.trans h.os, hg.tape.trans h.tape, hg.output.trans h.output, Nat.le_trans h.size hg.size, fun k hk hR => (hg.block k (Nat.lt_of_lt_of_le hk h.size) (fun e => by have := (ho.lt k e.symm).1; omega)).trans (h.block k hk hR)⟩
theorem Rd.grown {R lo base : Nat} {w w' : World} {v : Value} {e size n : Nat} {xs : List Value} {zs : List Int} {er : Int} {un : Bool} (h : Rd w R lo zs er un) (ho : w.ownsRow base e size v n xs) (hb : R < base) (hg : w.grownBy w' v.ownBlock) : Rd w' R lo zs er un :=
  h.keep fun k hk => hg.block k (by have := h.rlt; have := h.lt; omega) (fun e => by have := (ho.lt k e.symm).1; have := h.lt; omega)
theorem own_shapeN {w : World} {base e size : Nat} {v : Value} {n : Nat} {xs : List Value} (h : w.ownsRow base e size v n xs) : ∃ ao cap, v = .slice ao n cap := by
  rcases h.2 with ⟨rfl, rfl⟩ | ⟨g, cap, cur, rfl, _⟩
  · exact ⟨none, 0, rfl⟩
  · exact ⟨_, cap, rfl⟩

theorem Tryz.info2 : (Tryz.prog.info? 2).map (fun i => (i.zero, i.size, i.bytes)) = some (some (.int .i64 0), 1, 8) := by kernel_rfl
theorem Tryz.info90 : (Tryz.prog.info? 90).map (fun i => (i.zero, i.size, i.bytes)) = some (some (.agg #[.int .i32 0, .int .i64 0]), 2, 16) := by kernel_rfl
def i64C (l : List Int) : List Value := ints .i64 l
theorem i64C_append (a b : List Int) : i64C (a ++ b) = i64C a ++ i64C b := ints_append _ _ _
def keyCs : List (Int × Int) → List Value
  | [] => []
  | k :: l => .int .i32 k.1 :: .int .i64 k.2 :: keyCs l
theorem keyCs_append (a b : List (Int × Int)) : keyCs (a ++ b) = keyCs a ++ keyCs b := by
  induction a with
  | nil => rfl
  | cons x r ih => simp [keyCs, ih]
set_option maxHeartbeats 3200000 in
theorem takeInts_r {w : World} {R lo : Nat} {s : RS} (h : RdS w R lo s) :
    Calls Tryz.prog 135 #[.pointer (some ⟨R, 0, none⟩), .func (.func 89) #[.pointer (some ⟨R, 0, none⟩)] #[]] w fun e w' => ∃ x, e = .returned x ∧ w'.ownsRow w.heap.size 2 1 x (s.list RS.num).1.length (i64C (s.list RS.num).1) ∧ RdS w' R lo (s.list RS.num).2 ∧ But R w w' := by
  obtain ⟨i0, hi, hz0, hz1, hz2⟩ := info_parts Tryz.info2
  have HN := hide (num_r h)
  have HRl := hide h.rlt
  obtain ⟨n, hn⟩ : ∃ n, s.num.1 = n := ⟨_, rfl⟩
  obtain ⟨s1, hs1⟩ : ∃ s1, s.num.2 = s1 := ⟨_, rfl⟩
  obtain ⟨s2, hs2⟩ : ∃ s2, s.len = s2 := ⟨_, rfl⟩
  obtain ⟨RES, hRES⟩ : ∃ r, s.list RS.num = r := ⟨_, rfl⟩
  have hm : s1.must (decide (0 ≤ n ∧ n ≤ 4096)) = s2 := by rw [← hn, ← hs1, ← hs2]; rfl
  have hl : RES = RS.iter RS.num n.toNat s2 := by rw [← hRES, ← hs2, ← hn]; rfl
  have HLO : Hid (s2.er = 0 → 0 ≤ n ∧ n ≤ 4096) := fun e => by rw [← hs2] at e; rw [← hn]; exact len_ok e
  rw [hRES]
  rw [hn, hs1] at HN
  have HRES := hide hl
  have HM := hide hm
  clear h hn hs1 hs2 hRES hl hm
  go_enter Tryz.func135, Tryz.ntmps135
  go_wp2_with fail
  refine (unhide HN).mono ?_
  rintro e w1 ⟨rfl, h1, h2⟩
  obtain ⟨bb, hbb⟩ : ∃ b', decide (0 ≤ n ∧ n ≤ 4096) = b' := ⟨_, rfl⟩
  rw [hbb] at HM
  have HMu := hide (must_r h1 bb)
  rw [unhide HM] at HMu
  have HB1 := hide h2
  have hpass : (if 0 ≤ n then decide (n ≤ 4096) else false) = bb := by
    rw [← hbb]
    by_cases c : 0 ≤ n <;> simp [c]
  have HP := hide hpass
  clear h1 h2 HN hbb hpass HM
  have key : Calls Tryz.prog 131 #[.pointer (some ⟨R, 0, none⟩), .bool (if 0 ≤ n then decide (n ≤ 4096) else false)] w1 fun e w' => e = .returned (.tuple #[]) ∧ RdS w' R lo s2 ∧ But R w1 w' := by rw [unhide HP]; exact unhide HMu
  have HK : Hid (∀ b, (if 0 ≤ n then decide (n ≤ 4096) else false) = b → Calls Tryz.prog 131 #[.pointer (some ⟨R, 0, none⟩), .bool b] w1 fun e w' => e = .returned (.tuple #[]) ∧ RdS w' R lo s2 ∧ But R w1 w') := fun b hb => by rw [← hb]; exact key
  clear key HMu
  have fin : ∀ (wm : World), RdS wm R lo s2 → But R w wm → True := fun _ _ _ => trivial
  clear fin HP
  by_cases c1 : 0 ≤ n
  case neg =>
    go_wp2_with fail
    refine (unhide HK false (by rw [if_neg (by omega)])).mono ?_
    rintro e w2 ⟨rfl, h3, h4⟩
    have HF : Hid (w2.ownsRow w.heap.size 2 1 (.slice none 0 0) RES.1.length (i64C RES.1) ∧ RdS w2 R lo RES.2 ∧ But R w w2) := by
      have e : RES = ([], s2) := by rw [unhide HRES, show n.toNat = 0 by omega]; rfl
      rw [e]
      exact ⟨World.ownsRow_nil _ _ _ _, h3, (unhide HB1).trans h4⟩
    clear h3 h4
    have c2 : ¬ (0 : Int) < n := by omega
    go_wp2
    go_loopw [6, 7] (fun v c wr => v = .slice none 0 0 ∧ c = .int .i64 0 ∧ wr = w2) (fun _ _ _ => 0)
    case atStart => exact ⟨rfl, rfl, rfl⟩
    case round =>
      obtain ⟨rfl, rfl, rfl⟩ := hrel
      go_wp2
      go_ret
      exact ⟨_, rfl, unhide HF⟩
  by_cases c2 : n ≤ 4096
  case neg =>
    have c2b : decide (n ≤ 4096) = false := decide_eq_false c2
    go_wp2_with fail
    refine (unhide HK false (by rw [if_pos (by omega), c2b])).mono ?_
    rintro e w2 ⟨rfl, h3, h4⟩
    have he2 : s2.er ≠ 0 := fun e => by have := (unhide HLO e).2; omega
    have HF : Hid (w2.ownsRow w.heap.size 2 1 (.slice none 0 0) RES.1.length (i64C RES.1) ∧ RdS w2 R lo RES.2 ∧ But R w w2) := by
      have e := iter_stop (take := RS.num) (k := 0) (s := s2) he2 n.toNat
      rw [Nat.zero_add, ← unhide HRES] at e
      rw [e]
      exact ⟨World.ownsRow_nil _ _ _ _, h3, (unhide HB1).trans h4⟩
    have g1 := h3.ce
    clear h3 h4
    generalize s2.er = er2 at g1 he2
    have he2b : (er2 == 0) = false := by simpa using he2
    go_wp2
    go_loopw [6, 7] (fun v c wr => v = .slice none 0 0 ∧ c = .int .i64 0 ∧ wr = w2) (fun _ _ _ => 0)
    case atStart => exact ⟨rfl, rfl, rfl⟩
    case round =>
      obtain ⟨rfl, rfl, rfl⟩ := hrel
      have c0 : (0 : Int) < n := by omega
      go_wp2
      go_ret
      exact ⟨_, rfl, unhide HF⟩
  have c2b : decide (n ≤ 4096) = true := decide_eq_true c2
  obtain ⟨m, rfl⟩ : ∃ m : Nat, n = m := ⟨n.toNat, by omega⟩
  go_wp2_with fail
  refine (unhide HK true (by rw [if_pos (by omega), c2b])).mono ?_
  rintro e w2 ⟨rfl, h3, h4⟩
  have HR2 := hide h3
  have HB2 := hide ((unhide HB1).trans h4)
  clear h3 h4 HK c1 c2b
  go_wp2
  go_loopw [6, 7] (fun v c wr => ∃ i : Nat, i ≤ m ∧ c = .int .i64 i ∧ wr.ownsRow w.heap.size 2 1 v (RS.iter RS.num i s2).1.length (i64C (RS.iter RS.num i s2).1) ∧ RdS wr R lo (RS.iter RS.num i s2).2 ∧ But R w wr) (fun _ c _ => m - (intOf c).toNat)
  case atStart => exact ⟨0, by omega, rfl, World.ownsRow_nil _ _ _ _, unhide HR2, unhide HB2⟩
  case round =>
    obtain ⟨i, him, rfl, ho, hr, hb⟩ := hrel
    obtain ⟨ao, ca, rfl⟩ := own_shapeN ho
    have g1 := hr.ce
    have hil := iter_len RS.num s2 i
    by_cases hlt : i < m
    · by_cases he : (RS.iter RS.num i s2).2.er = 0
      · rw [he] at g1
        have hst := iter_step he
        have HST := hide hst
        have HO := hide ho
        have HRr := hide hr
        have HB := hide hb
        have HT := hide (num_r hr)
        clear ho hr hb hst he
        generalize RS.iter RS.num i s2 = it at *
        obtain ⟨L, sI⟩ := it
        simp only at HST HO HRr HT hil g1 ⊢
        go_wp2_with fail
        refine (unhide HT).mono ?_
        rintro e w3 ⟨rfl, q1, q2⟩
        have hsz := (unhide HB).size
        have hrl := unhide HRl
        have ho3 := own_keepR (unhide HO) q2 hrl
        have hal : Below w3.heap.size w3 (w3.alloc (.cells #[.int .i64 sI.num.1] 2)) := (Below.refl _ _).alloc (Nat.le_refl _) _
        have HO3 := hide (own_below ho3 hal)
        have HR3 := hide (q1.below hal)
        have HB3 := hide (((unhide HB).trans q2).trans (But.of hal))
        have HSZ3 : Hid (w.heap.size ≤ (w3.alloc (.cells #[.int .i64 sI.num.1] 2)).heap.size) := (unhide HB3).size
        clear q1 q2 ho3 hal HT hsz
        go_wp2_with (at_builtin; refine wpList_append_own _ rfl _ _ 24 rfl w.heap.size 2 i0 (.int .i64 0) 1 8 Tryz.underlying24 hi hz0 hz1 hz2 rfl (by decide) _ _ _ rfl (unhide HO3) ⟨w3.heap.size, 0, none⟩ 1 1 [.int .i64 sI.num.1] rfl rfl ?d0 ?d1 ?d2 ?d3 ?d4 ?_)
        case d0 =>
          intro j u hu
          have hj : j < 1 := by have := (List.getElem?_eq_some_iff.1 hu).1; simpa using this
          have hadd : (⟨w3.heap.size, 0, none⟩ : Addr).add j = ⟨w3.heap.size, j, none⟩ := by unfold Addr.add; split <;> simp_all
          rw [hadd, World.cell?_alloc_new]
          simpa using hu
        case d1 => intro u hu; simp at hu; first | (subst hu; rfl) | (rcases hu with rfl | rfl <;> rfl) | (rcases hu with rfl | rfl | rfl | rfl | rfl | rfl <;> rfl)
        case d2 => unfold maxLen; omega
        case d3 => omega
        case d4 => exact unhide HSZ3
        intro v' w4 ho4 hg4 _
        obtain ⟨ao', ca', rfl⟩ := own_shapeN ho4
        have HF : Hid (w4.ownsRow w.heap.size 2 1 (.slice ao' (L.length + 1) ca') (RS.iter RS.num (i + 1) s2).1.length (i64C (RS.iter RS.num (i + 1) s2).1) ∧ RdS w4 R lo (RS.iter RS.num (i + 1) s2).2 ∧ But R w w4) := by
          rw [unhide HST]
          refine ⟨?_, (unhide HR3).grown (unhide HO3) hrl hg4, (unhide HB3).grown (unhide HO3) (Nat.le_refl _) hg4⟩
          rw [List.length_append, i64C_append]
          exact ho4
        clear ho4 hg4
        go_wp2
        go_roundw
        case rel => exact ⟨i + 1, by omega, by go_num, (unhide HF).1, (unhide HF).2.1, (unhide HF).2.2⟩
        case measure => simp [intOf]; omega
      · have hE : RES = RS.iter RS.num i s2 := by
          have e := iter_stop (take := RS.num) (k := i) (s := s2) he (m - i)
          rw [show i + (m - i) = m by omega] at e
          rw [unhide HRES, Int.toNat_natCast, e]
        have HF : Hid (wr.ownsRow w.heap.size 2 1 (.slice ao (RS.iter RS.num i s2).1.length ca) RES.1.length (i64C RES.1) ∧ RdS wr R lo RES.2 ∧ But R w wr) := by rw [hE]; exact ⟨ho, hr, hb⟩
        clear ho hr hb hE
        generalize (RS.iter RS.num i s2).2.er = er2 at g1 he
        have heb : (er2 == 0) = false := by simpa using he
        generalize (RS.iter RS.num i s2).1.length = L0 at *
        go_wp2
        go_ret
        exact ⟨_, rfl, unhide HF⟩
    · obtain rfl : i = m := by omega
      have hE : RES = RS.iter RS.num i s2 := by rw [unhide HRES, Int.toNat_natCast]
      have HF : Hid (wr.ownsRow w.heap.size 2 1 (.slice ao (RS.iter RS.num i s2).1.length ca) RES.1.length (i64C RES.1) ∧ RdS wr R lo RES.2 ∧ But R w wr) := by rw [hE]; exact ⟨ho, hr, hb⟩
      clear ho hr hb hE g1
      generalize (RS.iter RS.num i s2).1.length = L0 at *
      go_wp2
      go_ret
      exact ⟨_, rfl, unhide HF⟩

set_option maxHeartbeats 3200000 in
theorem takeKeys_r {w : World} {R lo : Nat} {s : RS} (h : RdS w R lo s) :
    Calls Tryz.prog 136 #[.pointer (some ⟨R, 0, none⟩), .func (.func 137) #[.pointer (some ⟨R, 0, none⟩)] #[]] w fun e w' => ∃ x, e = .returned x ∧ w'.ownsRow w.heap.size 90 2 x (s.list RS.key).1.length (keyCs (s.list RS.key).1) ∧ RdS w' R lo (s.list RS.key).2 ∧ But R w w' := by
  obtain ⟨i0, hi, hz0, hz1, hz2⟩ := info_parts Tryz.info90
  have HN := hide (num_r h)
  have HRl := hide h.rlt
  obtain ⟨n, hn⟩ : ∃ n, s.num.1 = n := ⟨_, rfl⟩
  obtain ⟨s1, hs1⟩ : ∃ s1, s.num.2 = s1 := ⟨_, rfl⟩
  obtain ⟨s2, hs2⟩ : ∃ s2, s.len = s2 := ⟨_, rfl⟩
  obtain ⟨RES, hRES⟩ : ∃ r, s.list RS.key = r := ⟨_, rfl⟩
  have hm : s1.must (decide (0 ≤ n ∧ n ≤ 4096)) = s2 := by rw [← hn, ← hs1, ← hs2]; rfl
  have hl : RES = RS.iter RS.key n.toNat s2 := by rw [← hRES, ← hs2, ← hn]; rfl
  have HLO : Hid (s2.er = 0 → 0 ≤ n ∧ n ≤ 4096) := fun e => by rw [← hs2] at e; rw [← hn]; exact len_ok e
  rw [hRES]
  rw [hn, hs1] at HN
  have HRES := hide hl
  have HM := hide hm
  clear h hn hs1 hs2 hRES hl hm
  go_enter Tryz.func136, Tryz.ntmps136
  go_wp2_with fail
  refine (unhide HN).mono ?_
  rintro e w1 ⟨rfl, h1, h2⟩
  obtain ⟨bb, hbb⟩ : ∃ b', decide (0 ≤ n ∧ n ≤ 4096) = b' := ⟨_, rfl⟩
  rw [hbb] at HM
  have HMu := hide (must_r h1 bb)
  rw [unhide HM] at HMu
  have HB1 := hide h2
  have hpass : (if 0 ≤ n then decide (n ≤ 4096) else false) = bb := by
    rw [← hbb]
    by_cases c : 0 ≤ n <;> simp [c]
  have HP := hide hpass
  clear h1 h2 HN hbb hpass HM
  have key : Calls Tryz.prog 131 #[.pointer (some ⟨R, 0, none⟩), .bool (if 0 ≤ n then decide (n ≤ 4096) else false)] w1 fun e w' => e = .returned (.tuple #[]) ∧ RdS w' R lo s2 ∧ But R w1 w' := by rw [unhide HP]; exact unhide HMu
  have HK : Hid (∀ b, (if 0 ≤ n then decide (n ≤ 4096) else false) = b → Calls Tryz.prog 131 #[.pointer (some ⟨R, 0, none⟩), .bool b] w1 fun e w' => e = .returned (.tuple #[]) ∧ RdS w' R lo s2 ∧ But R w1 w') := fun b hb => by rw [← hb]; exact key
  clear key HMu
  have fin : ∀ (wm : World), RdS wm R lo s2 → But R w wm → True := fun _ _ _ => trivial
  clear fin HP
  by_cases c1 : 0 ≤ n
  case neg =>
    go_wp2_with fail
    refine (unhide HK false (by rw [if_neg (by omega)])).mono ?_
    rintro e w2 ⟨rfl, h3, h4⟩
    have HF : Hid (w2.ownsRow w.heap.size 90 2 (.slice none 0 0) RES.1.length (keyCs RES.1) ∧ RdS w2 R lo RES.2 ∧ But R w w2) := by
      have e : RES = ([], s2) := by rw [unhide HRES, show n.toNat = 0 by omega]; rfl
      rw [e]
      exact ⟨World.ownsRow_nil _ _ _ _, h3, (unhide HB1).trans h4⟩
    clear h3 h4
    have c2 : ¬ (0 : Int) < n := by omega
    go_wp2
    go_loopw [6, 7] (fun v c wr => v = .slice none 0 0 ∧ c = .int .i64 0 ∧ wr = w2) (fun _ _ _ => 0)
    case atStart => exact ⟨rfl, rfl, rfl⟩
    case round =>
      obtain ⟨rfl, rfl, rfl⟩ := hrel
      go_wp2
      go_ret
      exact ⟨_, rfl, unhide HF⟩
  by_cases c2 : n ≤ 4096
  case neg =>
    have c2b : decide (n ≤ 4096) = false := decide_eq_false c2
    go_wp2_with fail
    refine (unhide HK false (by rw [if_pos (by omega), c2b])).mono ?_
    rintro e w2 ⟨rfl, h3, h4⟩
    have he2 : s2.er ≠ 0 := fun e => by have := (unhide HLO e).2; omega
    have HF : Hid (w2.ownsRow w.heap.size 90 2 (.slice none 0 0) RES.1.length (keyCs RES.1) ∧ RdS w2 R lo RES.2 ∧ But R w w2) := by
      have e := iter_stop (take := RS.key) (k := 0) (s := s2) he2 n.toNat
      rw [Nat.zero_add, ← unhide HRES] at e
      rw [e]
      exact ⟨World.ownsRow_nil _ _ _ _, h3, (unhide HB1).trans h4⟩
    have g1 := h3.ce
    clear h3 h4
    generalize s2.er = er2 at g1 he2
    have he2b : (er2 == 0) = false := by simpa using he2
    go_wp2
    go_loopw [6, 7] (fun v c wr => v = .slice none 0 0 ∧ c = .int .i64 0 ∧ wr = w2) (fun _ _ _ => 0)
    case atStart => exact ⟨rfl, rfl, rfl⟩
    case round =>
      obtain ⟨rfl, rfl, rfl⟩ := hrel
      have c0 : (0 : Int) < n := by omega
      go_wp2
      go_ret
      exact ⟨_, rfl, unhide HF⟩
  have c2b : decide (n ≤ 4096) = true := decide_eq_true c2
  obtain ⟨m, rfl⟩ : ∃ m : Nat, n = m := ⟨n.toNat, by omega⟩
  go_wp2_with fail
  refine (unhide HK true (by rw [if_pos (by omega), c2b])).mono ?_
  rintro e w2 ⟨rfl, h3, h4⟩
  have HR2 := hide h3
  have HB2 := hide ((unhide HB1).trans h4)
  clear h3 h4 HK c1 c2b
  go_wp2
  go_loopw [6, 7] (fun v c wr => ∃ i : Nat, i ≤ m ∧ c = .int .i64 i ∧ wr.ownsRow w.heap.size 90 2 v (RS.iter RS.key i s2).1.length (keyCs (RS.iter RS.key i s2).1) ∧ RdS wr R lo (RS.iter RS.key i s2).2 ∧ But R w wr) (fun _ c _ => m - (intOf c).toNat)
  case atStart => exact ⟨0, by omega, rfl, World.ownsRow_nil _ _ _ _, unhide HR2, unhide HB2⟩
  case round =>
    obtain ⟨i, him, rfl, ho, hr, hb⟩ := hrel
    obtain ⟨ao, ca, rfl⟩ := own_shapeN ho
    have g1 := hr.ce
    have hil := iter_len RS.key s2 i
    by_cases hlt : i < m
    · by_cases he : (RS.iter RS.key i s2).2.er = 0
      · rw [he] at g1
        have hst := iter_step he
        have HST := hide hst
        have HO := hide ho
        have HRr := hide hr
        have HB := hide hb
        have HT := hide (key_r hr)
        clear ho hr hb hst he
        generalize RS.iter RS.key i s2 = it at *
        obtain ⟨L, sI⟩ := it
        simp only at HST HO HRr HT hil g1 ⊢
        go_wp2_with fail
        refine (unhide HT).mono ?_
        rintro e w3 ⟨rfl, q1, q2⟩
        have hsz := (unhide HB).size
        have hrl := unhide HRl
        have ho3 := own_keepR (unhide HO) q2 hrl
        have hal : Below w3.heap.size w3 (w3.alloc (.cells #[.int .i32 sI.key.1.1, .int .i64 sI.key.1.2] 90)) := (Below.refl _ _).alloc (Nat.le_refl _) _
        have HO3 := hide (own_below ho3 hal)
        have HR3 := hide (q1.below hal)
        have HB3 := hide (((unhide HB).trans q2).trans (But.of hal))
        have HSZ3 : Hid (w.heap.size ≤ (w3.alloc (.cells #[.int .i32 sI.key.1.1, .int .i64 sI.key.1.2] 90)).heap.size) := (unhide HB3).size
        clear q1 q2 ho3 hal HT hsz
        go_wp2_with (at_builtin; refine wpList_append_own _ rfl _ _ 22 rfl w.heap.size 90 i0 (.agg #[.int .i32 0, .int .i64 0]) 2 16 Tryz.underlying22 hi hz0 hz1 hz2 rfl (by decide) _ _ _ rfl (unhide HO3) ⟨w3.heap.size, 0, none⟩ 1 1 [.int .i32 sI.key.1.1, .int .i64 sI.key.1.2] rfl rfl ?d0 ?d1 ?d2 ?d3 ?d4 ?_)
        case d0 =>
          intro j u hu
          have hj : j < 2 := by have := (List.getElem?_eq_some_iff.1 hu).1; simpa using this
          have hadd : (⟨w3.heap.size, 0, none⟩ : Addr).add j = ⟨w3.heap.size, j, none⟩ := by unfold Addr.add; split <;> simp_all
          rw [hadd, World.cell?_alloc_new]
          simpa using hu
        case d1 => intro u hu; simp at hu; first | (subst hu; rfl) | (rcases hu with rfl | rfl <;> rfl) | (rcases hu with rfl | rfl | rfl | rfl | rfl | rfl <;> rfl)
        case d2 => unfold maxLen; omega
        case d3 => omega
        case d4 => exact unhide HSZ3
        intro v' w4 ho4 hg4 _
        obtain ⟨ao', ca', rfl⟩ := own_shapeN ho4
        have HF : Hid (w4.ownsRow w.heap.size 90 2 (.slice ao' (L.length + 1) ca') (RS.iter RS.key (i + 1) s2).1.length (keyCs (RS.iter RS.key (i + 1) s2).1) ∧ RdS w4 R lo (RS.iter RS.key (i + 1) s2).2 ∧ But R w w4) := by
          rw [unhide HST]
          refine ⟨?_, (unhide HR3).grown (unhide HO3) hrl hg4, (unhide HB3).grown (unhide HO3) (Nat.le_refl _) hg4⟩
          rw [List.length_append, keyCs_append]
          exact ho4
        clear ho4 hg4
        go_wp2
        go_roundw
        case rel => exact ⟨i + 1, by omega, by go_num, (unhide HF).1, (unhide HF).2.1, (unhide HF).2.2⟩
        case measure => simp [intOf]; omega
      · have hE : RES = RS.iter RS.key i s2 := by
          have e := iter_stop (take := RS.key) (k := i) (s := s2) he (m - i)
          rw [show i + (m - i) = m by omega] at e
          rw [unhide HRES, Int.toNat_natCast, e]
        have HF : Hid (wr.ownsRow w.heap.size 90 2 (.slice ao (RS.iter RS.key i s2).1.length ca) RES.1.length (keyCs RES.1) ∧ RdS wr R lo RES.2 ∧ But R w wr) := by rw [hE]; exact ⟨ho, hr, hb⟩
        clear ho hr hb hE
        generalize (RS.iter RS.key i s2).2.er = er2 at g1 he
        have heb : (er2 == 0) = false := by simpa using he
        generalize (RS.iter RS.key i s2).1.length = L0 at *
        go_wp2
        go_ret
        exact ⟨_, rfl, unhide HF⟩
    · obtain rfl : i = m := by omega
      have hE : RES = RS.iter RS.key i s2 := by rw [unhide HRES, Int.toNat_natCast]
      have HF : Hid (wr.ownsRow w.heap.size 90 2 (.slice ao (RS.iter RS.key i s2).1.length ca) RES.1.length (keyCs RES.1) ∧ RdS wr R lo RES.2 ∧ But R w wr) := by rw [hE]; exact ⟨ho, hr, hb⟩
      clear ho hr hb hE g1
      generalize (RS.iter RS.key i s2).1.length = L0 at *
      go_wp2
      go_ret
      exact ⟨_, rfl, unhide HF⟩
end Go.Proofs.YtggllgimlfchhaaGreat
