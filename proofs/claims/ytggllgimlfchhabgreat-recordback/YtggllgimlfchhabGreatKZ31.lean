/- Several texts as one. -/
import Derived.Test.YtggllgimlfchhabGreatKZ30

/- Record: lists, read. -/
namespace Go.Proofs.YtggllgimlfchhabGreat
open Go.RowKit
set_option maxRecDepth 100000

/-- Up to k parts, up to the first error. -/
def RS.iter {α : Type} (take : RS → α × RS) : Nat → RS → List α × RS
  | 0, s => ([], s)
  | k + 1, s => if (RS.iter take k s).2.er = 0 then ((RS.iter take k s).1 ++ [(take (RS.iter take k s).2).1], (take (RS.iter take k s).2).2) else RS.iter take k s
def RS.len (s : RS) : RS := s.num.2.must (decide (0 ≤ s.num.1 ∧ s.num.1 ≤ 4096))
/-- A list. -/
def RS.list {α : Type} (take : RS → α × RS) (s : RS) : List α × RS := RS.iter take s.num.1.toNat s.len
theorem iter_step {α : Type} {take : RS → α × RS} {k : Nat} {s : RS} (h : (RS.iter take k s).2.er = 0) : RS.iter take (k + 1) s = ((RS.iter take k s).1 ++ [(take (RS.iter take k s).2).1], (take (RS.iter take k s).2).2) := by
  simp only [RS.iter, h, if_true]
theorem iter_stop {α : Type} {take : RS → α × RS} {k : Nat} {s : RS} (h : (RS.iter take k s).2.er ≠ 0) : ∀ j, RS.iter take (k + j) s = RS.iter take k s
  | 0 => rfl
  | j + 1 => by
    have ih := iter_stop h j
    rw [← Nat.add_assoc, RS.iter, ih, if_neg h]
theorem iter_len {α : Type} (take : RS → α × RS) (s : RS) : ∀ k, (RS.iter take k s).1.length ≤ k
  | 0 => Nat.le_refl _
  | k + 1 => by
    have ih := iter_len take s k
    by_cases h : (RS.iter take k s).2.er = 0
    · rw [iter_step h]; simp; omega
    · rw [iter_stop h 1]; omega
theorem iter_ok {α : Type} {take : RS → α × RS} (s : RS) : ∀ k, (RS.iter take k s).2.er = 0 → (∀ j, j ≤ k → (RS.iter take j s).2.er = 0)
  | 0, h, j, hj => by obtain rfl : j = 0 := by omega
                      exact h
  | k + 1, h, j, hj => by
    by_cases hk : (RS.iter take k s).2.er = 0
    · by_cases e : j = k + 1
      · rw [e]; exact h
      · exact iter_ok s k hk j (by omega)
    · rw [iter_stop hk 1] at h
      exact absurd h hk
theorem len_ok {s : RS} (h : s.len.er = 0) : 0 ≤ s.num.1 ∧ s.num.1 ≤ 4096 := by
  unfold RS.len at h
  by_cases c : 0 ≤ s.num.1 ∧ s.num.1 ≤ 4096
  · exact c
  · rw [decide_eq_false c] at h
    by_cases e : s.num.2.er = 0
    · rw [must_false _ e] at h; simp at h
    · rw [must_er _ _ e] at h; exact absurd h e
theorem list_len {α : Type} (take : RS → α × RS) (s : RS) : (s.list take).1.length ≤ 4096 := by
  by_cases h : s.len.er = 0
  · have := len_ok h
    have := iter_len take s.len s.num.1.toNat
    unfold RS.list
    omega
  · unfold RS.list
    have := iter_stop (take := take) (k := 0) (s := s.len) h s.num.1.toNat
    rw [Nat.zero_add] at this
    rw [this]
    simp [RS.iter]
theorem own_keepR {w w' : World} {base R e size : Nat} {v : Value} {n : Nat} {xs : List Value} (h : w.ownsRow base e size v n xs) (hk : But R w w') (hR : R < base) : w'.ownsRow base e size v n xs := by
  refine ⟨h.1, ?_⟩
  rcases h.2 with hn | ⟨g, cap, cur, hv, hg, hh, r⟩
  · exact .inl hn
  · exact .inr ⟨g, cap, cur, hv, hg, hk.same hh (by omega), r⟩
theorem But.grown {R lo : Nat} {a w w' : World} {v : Value} {e size n : Nat} {xs : List Value} (h : But R a w) (ho : w.ownsRow lo e size v n xs) (hlo : a.heap.size ≤ lo) (hg : w.grownBy w' v.ownBlock) : But R a w' :=
  ⟨hg.os.trans h.os, hg.tape.trans h.tape, hg.output.trans h.output, Nat.le_trans h.size hg.size, fun k hk hR => (hg.block k (Nat.lt_of_lt_of_le hk h.size) (fun e => by have := (ho.lt k e.symm).1; omega)).trans (h.block k hk hR)⟩
theorem Rd.grown {R lo base : Nat} {w w' : World} {v : Value} {e size n : Nat} {xs : List Value} {zs : List Int} {er : Int} {un : Bool} (h : Rd w R lo zs er un) (ho : w.ownsRow base e size v n xs) (hb : R < base) (hg : w.grownBy w' v.ownBlock) : Rd w' R lo zs er un :=
  h.keep fun k hk => hg.block k (by have := h.rlt; have := h.lt; omega) (fun e => by have := (ho.lt k e.symm).1; have := h.lt; omega)
theorem own_shapeN {w : World} {base e size : Nat} {v : Value} {n : Nat} {xs : List Value} (h : w.ownsRow base e size v n xs) : ∃ ao cap, v = .slice ao n cap := by
  rcases h.2 with ⟨rfl, rfl⟩ | ⟨g, cap, cur, rfl, _⟩
  · exact ⟨none, 0, rfl⟩
  · exact ⟨_, cap, rfl⟩

theorem Tryz.info2 : (Tryz.prog.info? 2).map (fun i => (i.zero, i.size, i.bytes)) = some (some (.int .i64 0), 1, 8) := by kernel_rfl
theorem Tryz.info91 : (Tryz.prog.info? 91).map (fun i => (i.zero, i.size, i.bytes)) = some (some (.agg #[.int .i32 0, .int .i64 0]), 2, 16) := by kernel_rfl
def i64C (l : List Int) : List Value := ints .i64 l
theorem i64C_append (a b : List Int) : i64C (a ++ b) = i64C a ++ i64C b := ints_append _ _ _
def keyCs : List (Int × Int) → List Value
  | [] => []
  | k :: l => .int .i32 k.1 :: .int .i64 k.2 :: keyCs l
theorem keyCs_append (a b : List (Int × Int)) : keyCs (a ++ b) = keyCs a ++ keyCs b := by
  induction a with
  | nil => rfl
  | cons x r ih => simp [keyCs, ih]
set_option maxHeartbeats 3200000 in
theorem takeInts_r {w : World} {R lo : Nat} {s : RS} (h : RdS w R lo s) :
    Calls Tryz.prog 93 #[.pointer (some ⟨R, 0, none⟩), .func (.func 59) #[.pointer (some ⟨R, 0, none⟩)] #[]] w fun e w' => ∃ x, e = .returned x ∧ w'.ownsRow w.heap.size 2 1 x (s.list RS.num).1.length (i64C (s.list RS.num).1) ∧ RdS w' R lo (s.list RS.num).2 ∧ But R w w' := by
  obtain ⟨i0, hi, hz0, hz1, hz2⟩ := info_parts Tryz.info2
  have HN := hide (num_r h)
  have HRl := hide h.rlt
  obtain ⟨n, hn⟩ : ∃ n, s.num.1 = n := ⟨_, rfl⟩
  obtain ⟨s1, hs1⟩ : ∃ s1, s.num.2 = s1 := ⟨_, rfl⟩
  obtain ⟨s2, hs2⟩ : ∃ s2, s.len = s2 := ⟨_, rfl⟩
  obtain ⟨RES, hRES⟩ : ∃ r, s.list RS.num = r := ⟨_, rfl⟩
  have hm : s1.must (decide (0 ≤ n ∧ n ≤ 4096)) = s2 := by rw [← hn, ← hs1, ← hs2]; rfl
  have hl : RES = RS.iter RS.num n.toNat s2 := by rw [← hRES, ← hs2, ← hn]; rfl
  have HLO : Hid (s2.er = 0 → 0 ≤ n ∧ n ≤ 4096) := fun e => by rw [← hs2] at e; rw [← hn]; exact len_ok e
  rw [hRES]
  rw [hn, hs1] at HN
  have HRES := hide hl
  have HM := hide hm
  clear h hn hs1 hs2 hRES hl hm
  go_enter Tryz.func93, Tryz.ntmps93
  go_wp2_with fail
  refine (unhide HN).mono ?_
  rintro e w1 ⟨rfl, h1, h2⟩
  obtain ⟨bb, hbb⟩ : ∃ b', decide (0 ≤ n ∧ n ≤ 4096) = b' := ⟨_, rfl⟩
  rw [hbb] at HM
  have HMu := hide (must_r h1 bb)
  rw [unhide HM] at HMu
  have HB1 := hide h2
  have hpass : (if 0 ≤ n then decide (n ≤ 4096) else false) = bb := by
    rw [← hbb]
    by_cases c : 0 ≤ n <;> simp [c]
  have HP := hide hpass
  clear h1 h2 HN hbb hpass HM
  have key : Calls Tryz.prog 89 #[.pointer (some ⟨R, 0, none⟩), .bool (if 0 ≤ n then decide (n ≤ 4096) else false)] w1 fun e w' => e = .returned (.tuple #[]) ∧ RdS w' R lo s2 ∧ But R w1 w' := by rw [unhide HP]; exact unhide HMu
  have HK : Hid (∀ b, (if 0 ≤ n then decide (n ≤ 4096) else false) = b → Calls Tryz.prog 89 #[.pointer (some ⟨R, 0, none⟩), .bool b] w1 fun e w' => e = .returned (.tuple #[]) ∧ RdS w' R lo s2 ∧ But R w1 w') := fun b hb => by rw [← hb]; exact key
  clear key HMu
  have fin : ∀ (wm : World), RdS wm R lo s2 → But R w wm → True := fun _ _ _ => trivial
  clear fin HP
  by_cases c1 : 0 ≤ n
  case neg =>
    go_wp2_with fail
    refine (unhide HK false (by rw [if_neg (by omega)])).mono ?_
    rintro e w2 ⟨rfl, h3, h4⟩
    have HF : Hid (w2.ownsRow w.heap.size 2 1 (.slice none 0 0) RES.1.length (i64C RES.1) ∧ RdS w2 R lo RES.2 ∧ But R w w2) := by
      have e : RES = ([], s2) := by rw [unhide HRES, show n.toNat = 0 by omega]; rfl
      rw [e]
      exact ⟨World.ownsRow_nil _ _ _ _, h3, (unhide HB1).trans h4⟩
    clear h3 h4
    have c2 : ¬ (0 : Int) < n := by omega
    go_wp2
    go_loopw [6, 7] (fun v c wr => v = .slice none 0 0 ∧ c = .int .i64 0 ∧ wr = w2) (fun _ _ _ => 0)
    case atStart => exact ⟨rfl, rfl, rfl⟩
    case round =>
      obtain ⟨rfl, rfl, rfl⟩ := hrel
      go_wp2
      go_ret
      exact ⟨_, rfl, unhide HF⟩
  by_cases c2 : n ≤ 4096
  case neg =>
    have c2b : decide (n ≤ 4096) = false := decide_eq_false c2
    go_wp2_with fail
    refine (unhide HK false (by rw [if_pos (by omega), c2b])).mono ?_
    rintro e w2 ⟨rfl, h3, h4⟩
    have he2 : s2.er ≠ 0 := fun e => by have := (unhide HLO e).2; omega
    have HF : Hid (w2.ownsRow w.heap.size 2 1 (.slice none 0 0) RES.1.length (i64C RES.1) ∧ RdS w2 R lo RES.2 ∧ But R w w2) := by
      have e := iter_stop (take := RS.num) (k := 0) (s := s2) he2 n.toNat
      rw [Nat.zero_add, ← unhide HRES] at e
      rw [e]
      exact ⟨World.ownsRow_nil _ _ _ _, h3, (unhide HB1).trans h4⟩
    have g1 := h3.ce
    clear h3 h4
    generalize s2.er = er2 at g1 he2
    have he2b : (er2 == 0) = false := by simpa using he2
    go_wp2
    go_loopw [6, 7] (fun v c wr => v = .slice none 0 0 ∧ c = .int .i64 0 ∧ wr = w2) (fun _ _ _ => 0)
    case atStart => exact ⟨rfl, rfl, rfl⟩
    case round =>
      obtain ⟨rfl, rfl, rfl⟩ := hrel
      have c0 : (0 : Int) < n := by omega
      go_wp2
      go_ret
      exact ⟨_, rfl, unhide HF⟩
  have c2b : decide (n ≤ 4096) = true := decide_eq_true c2
  obtain ⟨m, rfl⟩ : ∃ m : Nat, n = m := ⟨n.toNat, by omega⟩
  go_wp2_with fail
  refine (unhide HK true (by rw [if_pos (by omega), c2b])).mono ?_
  rintro e w2 ⟨rfl, h3, h4⟩
  have HR2 := hide h3
  have HB2 := hide ((unhide HB1).trans h4)
  clear h3 h4 HK c1 c2b
  go_wp2
  go_loopw [6, 7] (fun v c wr => ∃ i : Nat, i ≤ m ∧ c = .int .i64 i ∧ wr.ownsRow w.heap.size 2 1 v (RS.iter RS.num i s2).1.length (i64C (RS.iter RS.num i s2).1) ∧ RdS wr R lo (RS.iter RS.num i s2).2 ∧ But R w wr) (fun _ c _ => m - (intOf c).toNat)
  case atStart => exact ⟨0, by omega, rfl, World.ownsRow_nil _ _ _ _, unhide HR2, unhide HB2⟩
  case round =>
    obtain ⟨i, him, rfl, ho, hr, hb⟩ := hrel
    obtain ⟨ao, ca, rfl⟩ := own_shapeN ho
    have g1 := hr.ce
    have hil := iter_len RS.num s2 i
    by_cases hlt : i < m
    · by_cases he : (RS.iter RS.num i s2).2.er = 0
      · rw [he] at g1
        have hst := iter_step he
        have HST := hide hst
        have HO := hide ho
        have HRr := hide hr
        have HB := hide hb
        have HT := hide (num_r hr)
        clear ho hr hb hst he
        generalize RS.iter RS.num i s2 = it at *
        obtain ⟨L, sI⟩ := it
        simp only at HST HO HRr HT hil g1 ⊢
        go_wp2_with fail
        refine (unhide HT).mono ?_
        rintro e w3 ⟨rfl, q1, q2⟩
        have hsz := (unhide HB).size
        have hrl := unhide HRl
        have ho3 := own_keepR (unhide HO) q2 hrl
        have hal : Below w3.heap.size w3 (w3.alloc (.cells #[.int .i64 sI.num.1] 2)) := (Below.refl _ _).alloc (Nat.le_refl _) _
        have HO3 := hide (own_below ho3 hal)
        have HR3 := hide (q1.below hal)
        have HB3 := hide (((unhide HB).trans q2).trans (But.of hal))
        have HSZ3 : Hid (w.heap.size ≤ (w3.alloc (.cells #[.int .i64 sI.num.1] 2)).heap.size) := (unhide HB3).size
        clear q1 q2 ho3 hal HT hsz
        go_wp2_with (at_builtin; refine wpList_append_own _ rfl _ _ 67 rfl w.heap.size 2 i0 (.int .i64 0) 1 8 Tryz.underlying67 hi hz0 hz1 hz2 rfl (by decide) _ _ _ rfl (unhide HO3) ⟨w3.heap.size, 0, none⟩ 1 1 [.int .i64 sI.num.1] rfl rfl ?d0 ?d1 ?d2 ?d3 ?d4 ?_)
        case d0 =>
          intro j u hu
          have hj : j < 1 := by have := (List.getElem?_eq_some_iff.1 hu).1; simpa using this
          have hadd : (⟨w3.heap.size, 0, none⟩ : Addr).add j = ⟨w3.heap.size, j, none⟩ := by unfold Addr.add; split <;> simp_all
          rw [hadd, World.cell?_alloc_new]
          simpa using hu
        case d1 => intro u hu; simp at hu; first | (subst hu; rfl) | (rcases hu with rfl | rfl <;> rfl) | (rcases hu with rfl | rfl | rfl | rfl | rfl | rfl <;> rfl)
        case d2 => unfold maxLen; omega
        case d3 => omega
        case d4 => exact unhide HSZ3
        intro v' w4 ho4 hg4 _
        obtain ⟨ao', ca', rfl⟩ := own_shapeN ho4
        have HF : Hid (w4.ownsRow w.heap.size 2 1 (.slice ao' (L.length + 1) ca') (RS.iter RS.num (i + 1) s2).1.length (i64C (RS.iter RS.num (i + 1) s2).1) ∧ RdS w4 R lo (RS.iter RS.num (i + 1) s2).2 ∧ But R w w4) := by
          rw [unhide HST]
          refine ⟨?_, (unhide HR3).grown (unhide HO3) hrl hg4, (unhide HB3).grown (unhide HO3) (Nat.le_refl _) hg4⟩
          rw [List.length_append, i64C_append]
          exact ho4
        clear ho4 hg4
        go_wp2
        go_roundw
        case rel => exact ⟨i + 1, by omega, by go_num, (unhide HF).1, (unhide HF).2.1, (unhide HF).2.2⟩
        case measure => simp [intOf]; omega
      · have hE : RES = RS.iter RS.num i s2 := by
          have e := iter_stop (take := RS.num) (k := i) (s := s2) he (m - i)
          rw [show i + (m - i) = m by omega] at e
          rw [unhide HRES, Int.toNat_natCast, e]
        have HF : Hid (wr.ownsRow w.heap.size 2 1 (.slice ao (RS.iter RS.num i s2).1.length ca) RES.1.length (i64C RES.1) ∧ RdS wr R lo RES.2 ∧ But R w wr) := by rw [hE]; exact ⟨ho, hr, hb⟩
        clear ho hr hb hE
        generalize (RS.iter RS.num i s2).2.er = er2 at g1 he
        have heb : (er2 == 0) = false := by simpa using he
        generalize (RS.iter RS.num i s2).1.length = L0 at *
        go_wp2
        go_ret
        exact ⟨_, rfl, unhide HF⟩
    · obtain rfl : i = m := by omega
      have hE : RES = RS.iter RS.num i s2 := by rw [unhide HRES, Int.toNat_natCast]
      have HF : Hid (wr.ownsRow w.heap.size 2 1 (.slice ao (RS.iter RS.num i s2).1.length ca) RES.1.length (i64C RES.1) ∧ RdS wr R lo RES.2 ∧ But R w wr) := by rw [hE]; exact ⟨ho, hr, hb⟩
      clear ho hr hb hE g1
      generalize (RS.iter RS.num i s2).1.length = L0 at *
      go_wp2
      go_ret
      exact ⟨_, rfl, unhide HF⟩

set_option maxHeartbeats 3200000 in
theorem takeKeys_r {w : World} {R lo : Nat} {s : RS} (h : RdS w R lo s) :
    Calls Tryz.prog 94 #[.pointer (some ⟨R, 0, none⟩), .func (.func 95) #[.pointer (some ⟨R, 0, none⟩)] #[]] w fun e w' => ∃ x, e = .returned x ∧ w'.ownsRow w.heap.size 91 2 x (s.list RS.key).1.length (keyCs (s.list RS.key).1) ∧ RdS w' R lo (s.list RS.key).2 ∧ But R w w' := by
  obtain ⟨i0, hi, hz0, hz1, hz2⟩ := info_parts Tryz.info91
  have HN := hide (num_r h)
  have HRl := hide h.rlt
  obtain ⟨n, hn⟩ : ∃ n, s.num.1 = n := ⟨_, rfl⟩
  obtain ⟨s1, hs1⟩ : ∃ s1, s.num.2 = s1 := ⟨_, rfl⟩
  obtain ⟨s2, hs2⟩ : ∃ s2, s.len = s2 := ⟨_, rfl⟩
  obtain ⟨RES, hRES⟩ : ∃ r, s.list RS.key = r := ⟨_, rfl⟩
  have hm : s1.must (decide (0 ≤ n ∧ n ≤ 4096)) = s2 := by rw [← hn, ← hs1, ← hs2]; rfl
  have hl : RES = RS.iter RS.key n.toNat s2 := by rw [← hRES, ← hs2, ← hn]; rfl
  have HLO : Hid (s2.er = 0 → 0 ≤ n ∧ n ≤ 4096) := fun e => by rw [← hs2] at e; rw [← hn]; exact len_ok e
  rw [hRES]
  rw [hn, hs1] at HN
  have HRES := hide hl
  have HM := hide hm
  clear h hn hs1 hs2 hRES hl hm
  go_enter Tryz.func94, Tryz.ntmps94
  go_wp2_with fail
  refine (unhide HN).mono ?_
  rintro e w1 ⟨rfl, h1, h2⟩
  obtain ⟨bb, hbb⟩ : ∃ b', decide (0 ≤ n ∧ n ≤ 4096) = b' := ⟨_, rfl⟩
  rw [hbb] at HM
  have HMu := hide (must_r h1 bb)
  rw [unhide HM] at HMu
  have HB1 := hide h2
  have hpass : (if 0 ≤ n then decide (n ≤ 4096) else false) = bb := by
    rw [← hbb]
    by_cases c : 0 ≤ n <;> simp [c]
  have HP := hide hpass
  clear h1 h2 HN hbb hpass HM
  have key : Calls Tryz.prog 89 #[.pointer (some ⟨R, 0, none⟩), .bool (if 0 ≤ n then decide (n ≤ 4096) else false)] w1 fun e w' => e = .returned (.tuple #[]) ∧ RdS w' R lo s2 ∧ But R w1 w' := by rw [unhide HP]; exact unhide HMu
  have HK : Hid (∀ b, (if 0 ≤ n then decide (n ≤ 4096) else false) = b → Calls Tryz.prog 89 #[.pointer (some ⟨R, 0, none⟩), .bool b] w1 fun e w' => e = .returned (.tuple #[]) ∧ RdS w' R lo s2 ∧ But R w1 w') := fun b hb => by rw [← hb]; exact key
  clear key HMu
  have fin : ∀ (wm : World), RdS wm R lo s2 → But R w wm → True := fun _ _ _ => trivial
  clear fin HP
  by_cases c1 : 0 ≤ n
  case neg =>
    go_wp2_with fail
    refine (unhide HK false (by rw [if_neg (by omega)])).mono ?_
    rintro e w2 ⟨rfl, h3, h4⟩
    have HF : Hid (w2.ownsRow w.heap.size 91 2 (.slice none 0 0) RES.1.length (keyCs RES.1) ∧ RdS w2 R lo RES.2 ∧ But R w w2) := by
      have e : RES = ([], s2) := by rw [unhide HRES, show n.toNat = 0 by omega]; rfl
      rw [e]
      exact ⟨World.ownsRow_nil _ _ _ _, h3, (unhide HB1).trans h4⟩
    clear h3 h4
    have c2 : ¬ (0 : Int) < n := by omega
    go_wp2
    go_loopw [6, 7] (fun v c wr => v = .slice none 0 0 ∧ c = .int .i64 0 ∧ wr = w2) (fun _ _ _ => 0)
    case atStart => exact ⟨rfl, rfl, rfl⟩
    case round =>
      obtain ⟨rfl, rfl, rfl⟩ := hrel
      go_wp2
      go_ret
      exact ⟨_, rfl, unhide HF⟩
  by_cases c2 : n ≤ 4096
  case neg =>
    have c2b : decide (n ≤ 4096) = false := decide_eq_false c2
    go_wp2_with fail
    refine (unhide HK false (by rw [if_pos (by omega), c2b])).mono ?_
    rintro e w2 ⟨rfl, h3, h4⟩
    have he2 : s2.er ≠ 0 := fun e => by have := (unhide HLO e).2; omega
    have HF : Hid (w2.ownsRow w.heap.size 91 2 (.slice none 0 0) RES.1.length (keyCs RES.1) ∧ RdS w2 R lo RES.2 ∧ But R w w2) := by
      have e := iter_stop (take := RS.key) (k := 0) (s := s2) he2 n.toNat
      rw [Nat.zero_add, ← unhide HRES] at e
      rw [e]
      exact ⟨World.ownsRow_nil _ _ _ _, h3, (unhide HB1).trans h4⟩
    have g1 := h3.ce
    clear h3 h4
    generalize s2.er = er2 at g1 he2
    have he2b : (er2 == 0) = false := by simpa using he2
    go_wp2
    go_loopw [6, 7] (fun v c wr => v = .slice none 0 0 ∧ c = .int .i64 0 ∧ wr = w2) (fun _ _ _ => 0)
    case atStart => exact ⟨rfl, rfl, rfl⟩
    case round =>
      obtain ⟨rfl, rfl, rfl⟩ := hrel
      have c0 : (0 : Int) < n := by omega
      go_wp2
      go_ret
      exact ⟨_, rfl, unhide HF⟩
  have c2b : decide (n ≤ 4096) = true := decide_eq_true c2
  obtain ⟨m, rfl⟩ : ∃ m : Nat, n = m := ⟨n.toNat, by omega⟩
  go_wp2_with fail
  refine (unhide HK true (by rw [if_pos (by omega), c2b])).mono ?_
  rintro e w2 ⟨rfl, h3, h4⟩
  have HR2 := hide h3
  have HB2 := hide ((unhide HB1).trans h4)
  clear h3 h4 HK c1 c2b
  go_wp2
  go_loopw [6, 7] (fun v c wr => ∃ i : Nat, i ≤ m ∧ c = .int .i64 i ∧ wr.ownsRow w.heap.size 91 2 v (RS.iter RS.key i s2).1.length (keyCs (RS.iter RS.key i s2).1) ∧ RdS wr R lo (RS.iter RS.key i s2).2 ∧ But R w wr) (fun _ c _ => m - (intOf c).toNat)
  case atStart => exact ⟨0, by omega, rfl, World.ownsRow_nil _ _ _ _, unhide HR2, unhide HB2⟩
  case round =>
    obtain ⟨i, him, rfl, ho, hr, hb⟩ := hrel
    obtain ⟨ao, ca, rfl⟩ := own_shapeN ho
    have g1 := hr.ce
    have hil := iter_len RS.key s2 i
    by_cases hlt : i < m
    · by_cases he : (RS.iter RS.key i s2).2.er = 0
      · rw [he] at g1
        have hst := iter_step he
        have HST := hide hst
        have HO := hide ho
        have HRr := hide hr
        have HB := hide hb
        have HT := hide (key_r hr)
        clear ho hr hb hst he
        generalize RS.iter RS.key i s2 = it at *
        obtain ⟨L, sI⟩ := it
        simp only at HST HO HRr HT hil g1 ⊢
        go_wp2_with fail
        refine (unhide HT).mono ?_
        rintro e w3 ⟨rfl, q1, q2⟩
        have hsz := (unhide HB).size
        have hrl := unhide HRl
        have ho3 := own_keepR (unhide HO) q2 hrl
        have hal : Below w3.heap.size w3 (w3.alloc (.cells #[.int .i32 sI.key.1.1, .int .i64 sI.key.1.2] 91)) := (Below.refl _ _).alloc (Nat.le_refl _) _
        have HO3 := hide (own_below ho3 hal)
        have HR3 := hide (q1.below hal)
        have HB3 := hide (((unhide HB).trans q2).trans (But.of hal))
        have HSZ3 : Hid (w.heap.size ≤ (w3.alloc (.cells #[.int .i32 sI.key.1.1, .int .i64 sI.key.1.2] 91)).heap.size) := (unhide HB3).size
        clear q1 q2 ho3 hal HT hsz
        go_wp2_with (at_builtin; refine wpList_append_own _ rfl _ _ 68 rfl w.heap.size 91 i0 (.agg #[.int .i32 0, .int .i64 0]) 2 16 Tryz.underlying68 hi hz0 hz1 hz2 rfl (by decide) _ _ _ rfl (unhide HO3) ⟨w3.heap.size, 0, none⟩ 1 1 [.int .i32 sI.key.1.1, .int .i64 sI.key.1.2] rfl rfl ?d0 ?d1 ?d2 ?d3 ?d4 ?_)
        case d0 =>
          intro j u hu
          have hj : j < 2 := by have := (List.getElem?_eq_some_iff.1 hu).1; simpa using this
          have hadd : (⟨w3.heap.size, 0, none⟩ : Addr).add j = ⟨w3.heap.size, j, none⟩ := by unfold Addr.add; split <;> simp_all
          rw [hadd, World.cell?_alloc_new]
          simpa using hu
        case d1 => intro u hu; simp at hu; first | (subst hu; rfl) | (rcases hu with rfl | rfl <;> rfl) | (rcases hu with rfl | rfl | rfl | rfl | rfl | rfl <;> rfl)
        case d2 => unfold maxLen; omega
        case d3 => omega
        case d4 => exact unhide HSZ3
        intro v' w4 ho4 hg4 _
        obtain ⟨ao', ca', rfl⟩ := own_shapeN ho4
        have HF : Hid (w4.ownsRow w.heap.size 91 2 (.slice ao' (L.length + 1) ca') (RS.iter RS.key (i + 1) s2).1.length (keyCs (RS.iter RS.key (i + 1) s2).1) ∧ RdS w4 R lo (RS.iter RS.key (i + 1) s2).2 ∧ But R w w4) := by
          rw [unhide HST]
          refine ⟨?_, (unhide HR3).grown (unhide HO3) hrl hg4, (unhide HB3).grown (unhide HO3) (Nat.le_refl _) hg4⟩
          rw [List.length_append, keyCs_append]
          exact ho4
        clear ho4 hg4
        go_wp2
        go_roundw
        case rel => exact ⟨i + 1, by omega, by go_num, (unhide HF).1, (unhide HF).2.1, (unhide HF).2.2⟩
        case measure => simp [intOf]; omega
      · have hE : RES = RS.iter RS.key i s2 := by
          have e := iter_stop (take := RS.key) (k := i) (s := s2) he (m - i)
          rw [show i + (m - i) = m by omega] at e
          rw [unhide HRES, Int.toNat_natCast, e]
        have HF : Hid (wr.ownsRow w.heap.size 91 2 (.slice ao (RS.iter RS.key i s2).1.length ca) RES.1.length (keyCs RES.1) ∧ RdS wr R lo RES.2 ∧ But R w wr) := by rw [hE]; exact ⟨ho, hr, hb⟩
        clear ho hr hb hE
        generalize (RS.iter RS.key i s2).2.er = er2 at g1 he
        have heb : (er2 == 0) = false := by simpa using he
        generalize (RS.iter RS.key i s2).1.length = L0 at *
        go_wp2
        go_ret
        exact ⟨_, rfl, unhide HF⟩
    · obtain rfl : i = m := by omega
      have hE : RES = RS.iter RS.key i s2 := by rw [unhide HRES, Int.toNat_natCast]
      have HF : Hid (wr.ownsRow w.heap.size 91 2 (.slice ao (RS.iter RS.key i s2).1.length ca) RES.1.length (keyCs RES.1) ∧ RdS wr R lo RES.2 ∧ But R w wr) := by rw [hE]; exact ⟨ho, hr, hb⟩
      clear ho hr hb hE g1
      generalize (RS.iter RS.key i s2).1.length = L0 at *
      go_wp2
      go_ret
      exact ⟨_, rfl, unhide HF⟩
end Go.Proofs.YtggllgimlfchhabGreat

/- Record: a transaction, read. -/
namespace Go.Proofs.YtggllgimlfchhabGreat
open Go.RowKit
set_option maxRecDepth 100000

/-- A transaction in rows of one's own. -/
def OwnT (base : Nat) (w : World) (cs : Array Value) (t : TxnD) : Prop :=
  ∃ cv av rv wv, cs = #[.int .i64 t.ses, .int .i64 t.req, cv, av, rv, wv] ∧ w.ownsRow base 5 1 cv t.code.length (ints .u8 t.code) ∧ w.ownsRow base 2 1 av t.args.length (i64C t.args) ∧ w.ownsRow base 91 2 rv t.reads.length (keyCs t.reads) ∧ w.ownsRow base 91 2 wv t.writes.length (keyCs t.writes)
theorem OwnT.but {base R : Nat} {w w' : World} {cs : Array Value} {t : TxnD} (h : OwnT base w cs t) (hk : But R w w') (hR : R < base) : OwnT base w' cs t := by
  obtain ⟨cv, av, rv, wv, h0, h1, h2, h3, h4⟩ := h
  exact ⟨cv, av, rv, wv, h0, own_keepR h1 hk hR, own_keepR h2 hk hR, own_keepR h3 hk hR, own_keepR h4 hk hR⟩
theorem own_other {w w' : World} {base base' e e' size size' n n' : Nat} {v v' : Value} {xs xs' : List Value} (h : w.ownsRow base e size v n xs) (h' : w.ownsRow base' e' size' v' n' xs') (hne : e ≠ e') (hg : w.grownBy w' v'.ownBlock) : w'.ownsRow base e size v n xs := by
  refine h.kept hg ?_
  rcases h.2 with ⟨rfl, _⟩ | ⟨g, cap, cur, rfl, _, hh, _⟩
  · exact .inl rfl
  · refine .inr ?_
    rcases h'.2 with ⟨rfl, _⟩ | ⟨g', cap', cur', rfl, _, hh', _⟩
    · simp [Value.ownBlock]
    · simp only [Value.ownBlock, ne_eq, Option.some.injEq]
      rintro rfl
      rw [hh] at hh'
      cases hh'
      exact hne rfl
theorem OwnT.grown {base base' size' n' : Nat} {w w' : World} {cs : Array Value} {t : TxnD} {v' : Value} {xs' : List Value} (h : OwnT base w cs t) (h' : w.ownsRow base' 70 size' v' n' xs') (hg : w.grownBy w' v'.ownBlock) : OwnT base w' cs t := by
  obtain ⟨cv, av, rv, wv, h0, h1, h2, h3, h4⟩ := h
  exact ⟨cv, av, rv, wv, h0, own_other h1 h' (by decide) hg, own_other h2 h' (by decide) hg, own_other h3 h' (by decide) hg, own_other h4 h' (by decide) hg⟩
theorem OwnT.below {base : Nat} {w w' : World} {cs : Array Value} {t : TxnD} (h : OwnT base w cs t) (hb : Below w.heap.size w w') : OwnT base w' cs t := by
  obtain ⟨cv, av, rv, wv, h0, h1, h2, h3, h4⟩ := h
  exact ⟨cv, av, rv, wv, h0, own_below h1 hb, own_below h2 hb, own_below h3 hb, own_below h4 hb⟩
theorem own_monoN {w : World} {base base' e size n : Nat} {v : Value} {xs : List Value} (h : w.ownsRow base e size v n xs) (hb : base' ≤ base) : w.ownsRow base' e size v n xs := by
  refine ⟨h.1, ?_⟩
  rcases h.2 with hn | ⟨g, cap, cur, hv, hg, r⟩
  · exact .inl hn
  · exact .inr ⟨g, cap, cur, hv, Nat.le_trans hb hg, r⟩

def RS.txn (s : RS) : TxnD × RS :=
  let a := s.num
  let b := a.2.num
  let c := b.2.blob
  let d := c.2.list RS.num
  let e := d.2.list RS.key
  let f := e.2.list RS.key
  (⟨a.1, b.1, c.1, d.1, e.1, f.1⟩, f.2)

set_option maxHeartbeats 6400000 in
theorem txn_r {w : World} {R lo : Nat} {s : RS} (h : RdS w R lo s) :
    Calls Tryz.prog 61 #[.pointer (some ⟨R, 0, none⟩)] w fun e w' => ∃ cs, e = .returned (.agg cs) ∧ OwnT w.heap.size w' cs s.txn.1 ∧ RdS w' R lo s.txn.2 ∧ But R w w' := by
  have hr := h.rlt
  obtain ⟨n1, s1, e1⟩ : ∃ n s', s.num = (n, s') := ⟨_, _, rfl⟩
  obtain ⟨n2, s2, e2⟩ : ∃ n s', s1.num = (n, s') := ⟨_, _, rfl⟩
  obtain ⟨l3, s3, e3⟩ : ∃ n s', s2.blob = (n, s') := ⟨_, _, rfl⟩
  obtain ⟨l4, s4, e4⟩ : ∃ n s', s3.list RS.num = (n, s') := ⟨_, _, rfl⟩
  obtain ⟨l5, s5, e5⟩ : ∃ n s', s4.list RS.key = (n, s') := ⟨_, _, rfl⟩
  obtain ⟨l6, s6, e6⟩ : ∃ n s', s5.list RS.key = (n, s') := ⟨_, _, rfl⟩
  have et : s.txn = (⟨n1, n2, l3, l4, l5, l6⟩, s6) := by simp only [RS.txn, e1, e2, e3, e4, e5, e6]
  rw [et]
  simp only
  have hal : Below w.heap.size w ((w.alloc (.cells #[.int .i64 0, .int .i64 0, .slice none 0 0, .slice none 0 0, .slice none 0 0, .slice none 0 0] 70)).alloc (.cells #[.int .i64 0, .int .i64 0, .slice none 0 0, .slice none 0 0, .slice none 0 0, .slice none 0 0] 70)) := ((Below.refl _ _).alloc (Nat.le_refl _) _).alloc (by simp) _
  have HC0 := hide (num_r (h.below hal))
  rw [e1] at HC0
  simp only at HC0
  have HB0 : Hid (But R w ((w.alloc (.cells #[.int .i64 0, .int .i64 0, .slice none 0 0, .slice none 0 0, .slice none 0 0, .slice none 0 0] 70)).alloc (.cells #[.int .i64 0, .int .i64 0, .slice none 0 0, .slice none 0 0, .slice none 0 0, .slice none 0 0] 70))) := But.of hal
  have HX0 : Hid (((w.alloc (.cells #[.int .i64 0, .int .i64 0, .slice none 0 0, .slice none 0 0, .slice none 0 0, .slice none 0 0] 70)).alloc (.cells #[.int .i64 0, .int .i64 0, .slice none 0 0, .slice none 0 0, .slice none 0 0, .slice none 0 0] 70)).heap[w.heap.size + 1]? = some (.cells #[.int .i64 0, .int .i64 0, .slice none 0 0, .slice none 0 0, .slice none 0 0, .slice none 0 0] 70) ∧ ((w.alloc (.cells #[.int .i64 0, .int .i64 0, .slice none 0 0, .slice none 0 0, .slice none 0 0, .slice none 0 0] 70)).alloc (.cells #[.int .i64 0, .int .i64 0, .slice none 0 0, .slice none 0 0, .slice none 0 0, .slice none 0 0] 70)).heap[w.heap.size]? = some (.cells #[.int .i64 0, .int .i64 0, .slice none 0 0, .slice none 0 0, .slice none 0 0, .slice none 0 0] 70)) := by
    have e : (w.alloc (.cells #[.int .i64 0, .int .i64 0, .slice none 0 0, .slice none 0 0, .slice none 0 0, .slice none 0 0] 70)).heap.size = w.heap.size + 1 := by simp
    have := heap_alloc_new (w.alloc (.cells #[.int .i64 0, .int .i64 0, .slice none 0 0, .slice none 0 0, .slice none 0 0, .slice none 0 0] 70)) (.cells #[.int .i64 0, .int .i64 0, .slice none 0 0, .slice none 0 0, .slice none 0 0, .slice none 0 0] 70)
    rw [e] at this
    exact ⟨this, (Below.heap_alloc _ _ _ (by simp)).trans (heap_alloc_new w _)⟩
  have HSZ0 : Hid (w.heap.size + 2 ≤ ((w.alloc (.cells #[.int .i64 0, .int .i64 0, .slice none 0 0, .slice none 0 0, .slice none 0 0, .slice none 0 0] 70)).alloc (.cells #[.int .i64 0, .int .i64 0, .slice none 0 0, .slice none 0 0, .slice none 0 0, .slice none 0 0] 70)).heap.size) := by show _ ≤ _; simp
  have HE : Hid (s1.num = (n2, s2) ∧ s2.blob = (l3, s3) ∧ s3.list RS.num = (l4, s4) ∧ s4.list RS.key = (l5, s5) ∧ s5.list RS.key = (l6, s6)) := ⟨e2, e3, e4, e5, e6⟩
  clear h hal et e1 e2 e3 e4 e5 e6
  go_enter Tryz.func61, Tryz.ntmps61
  go_wp2_with fail
  refine (unhide HC0).mono ?_
  rintro e y1 ⟨rfl, p0, q0⟩
  have hx0 : y1.heap[w.heap.size + 1]? = some (.cells #[.int .i64 0, .int .i64 0, .slice none 0 0, .slice none 0 0, .slice none 0 0, .slice none 0 0] 70) := q0.same (unhide HX0).1 (by omega)
  have hy0 : y1.heap[w.heap.size]? = some (.cells #[.int .i64 0, .int .i64 0, .slice none 0 0, .slice none 0 0, .slice none 0 0, .slice none 0 0] 70) := q0.same (unhide HX0).2 (by omega)
  have k0 : y1.cell? ⟨w.heap.size + 1, 0, none⟩ = some (.int .i64 0) := cell_of_heap hx0
  have f0 : ∀ o, y1.frozen? ⟨w.heap.size + 1, o, none⟩ = false := fun o => frozen_of_heap hx0
  have HX1 : Hid ((y1.setCell ⟨w.heap.size + 1, 0, none⟩ (.int .i64 n1)).heap[w.heap.size + 1]? = some (.cells #[.int .i64 n1, .int .i64 0, .slice none 0 0, .slice none 0 0, .slice none 0 0, .slice none 0 0] 70) ∧ (y1.setCell ⟨w.heap.size + 1, 0, none⟩ (.int .i64 n1)).heap[w.heap.size]? = some (.cells #[.int .i64 0, .int .i64 0, .slice none 0 0, .slice none 0 0, .slice none 0 0, .slice none 0 0] 70)) := ⟨setCell_heap hx0, (Below.heap_setCell _ _ _ _ (fun e => by simp only at e; omega)).trans hy0⟩
  have hsz0 := Nat.le_trans (unhide HSZ0) q0.size
  have HSZ1 : Hid (w.heap.size + 2 ≤ (y1.setCell ⟨w.heap.size + 1, 0, none⟩ (.int .i64 n1)).heap.size) := by show _ ≤ _; simp only [World.setCell, Array.size_modify]; exact hsz0
  have HR1 := hide (p0.other (b := w.heap.size + 1) (by omega) 0 (.int .i64 n1))
  have HB1 := hide (((unhide HB0).trans q0).new (b := w.heap.size + 1) (by omega) 0 (.int .i64 n1))
  have HC1 := hide (num_r (unhide HR1))
  rw [(unhide HE).1] at HC1
  simp only at HC1
  clear p0 q0 hx0 hy0 hsz0 HC0
  go_wp2_with fail
  refine (unhide HC1).mono ?_
  rintro e y2 ⟨rfl, p1, q1⟩
  have hx1 : y2.heap[w.heap.size + 1]? = some (.cells #[.int .i64 n1, .int .i64 0, .slice none 0 0, .slice none 0 0, .slice none 0 0, .slice none 0 0] 70) := q1.same (unhide HX1).1 (by omega)
  have hy1 : y2.heap[w.heap.size]? = some (.cells #[.int .i64 0, .int .i64 0, .slice none 0 0, .slice none 0 0, .slice none 0 0, .slice none 0 0] 70) := q1.same (unhide HX1).2 (by omega)
  have k1 : y2.cell? ⟨w.heap.size + 1, 1, none⟩ = some (.int .i64 0) := cell_of_heap hx1
  have f1 : ∀ o, y2.frozen? ⟨w.heap.size + 1, o, none⟩ = false := fun o => frozen_of_heap hx1
  have HX2 : Hid ((y2.setCell ⟨w.heap.size + 1, 1, none⟩ (.int .i64 n2)).heap[w.heap.size + 1]? = some (.cells #[.int .i64 n1, .int .i64 n2, .slice none 0 0, .slice none 0 0, .slice none 0 0, .slice none 0 0] 70) ∧ (y2.setCell ⟨w.heap.size + 1, 1, none⟩ (.int .i64 n2)).heap[w.heap.size]? = some (.cells #[.int .i64 0, .int .i64 0, .slice none 0 0, .slice none 0 0, .slice none 0 0, .slice none 0 0] 70)) := ⟨setCell_heap hx1, (Below.heap_setCell _ _ _ _ (fun e => by simp only at e; omega)).trans hy1⟩
  have hsz1 := Nat.le_trans (unhide HSZ1) q1.size
  have HSZ2 : Hid (w.heap.size + 2 ≤ (y2.setCell ⟨w.heap.size + 1, 1, none⟩ (.int .i64 n2)).heap.size) := by show _ ≤ _; simp only [World.setCell, Array.size_modify]; exact hsz1
  have HR2 := hide (p1.other (b := w.heap.size + 1) (by omega) 1 (.int .i64 n2))
  have HB2 := hide (((unhide HB1).trans q1).new (b := w.heap.size + 1) (by omega) 1 (.int .i64 n2))
  have HC2 := hide (blob_r (unhide HR2))
  rw [(unhide HE).2.1] at HC2
  simp only at HC2
  clear p1 q1 hx1 hy1 hsz1 HC1
  go_wp2_with fail
  refine (unhide HC2).mono ?_
  rintro e y3 ⟨x2, rfl, r2, p2, q2⟩
  obtain ⟨a3, c3, rfl⟩ := own_shapeN r2
  have hx2 : y3.heap[w.heap.size + 1]? = some (.cells #[.int .i64 n1, .int .i64 n2, .slice none 0 0, .slice none 0 0, .slice none 0 0, .slice none 0 0] 70) := q2.same (unhide HX2).1 (by omega)
  have hy2 : y3.heap[w.heap.size]? = some (.cells #[.int .i64 0, .int .i64 0, .slice none 0 0, .slice none 0 0, .slice none 0 0, .slice none 0 0] 70) := q2.same (unhide HX2).2 (by omega)
  have k2 : y3.cell? ⟨w.heap.size + 1, 2, none⟩ = some (.slice none 0 0) := cell_of_heap hx2
  have f2 : ∀ o, y3.frozen? ⟨w.heap.size + 1, o, none⟩ = false := fun o => frozen_of_heap hx2
  have HX3 : Hid ((y3.setCell ⟨w.heap.size + 1, 2, none⟩ (.slice a3 l3.length c3)).heap[w.heap.size + 1]? = some (.cells #[.int .i64 n1, .int .i64 n2, .slice a3 l3.length c3, .slice none 0 0, .slice none 0 0, .slice none 0 0] 70) ∧ (y3.setCell ⟨w.heap.size + 1, 2, none⟩ (.slice a3 l3.length c3)).heap[w.heap.size]? = some (.cells #[.int .i64 0, .int .i64 0, .slice none 0 0, .slice none 0 0, .slice none 0 0, .slice none 0 0] 70)) := ⟨setCell_heap hx2, (Below.heap_setCell _ _ _ _ (fun e => by simp only at e; omega)).trans hy2⟩
  have hsz2 := Nat.le_trans (unhide HSZ2) q2.size
  have HSZ3 : Hid (w.heap.size + 2 ≤ (y3.setCell ⟨w.heap.size + 1, 2, none⟩ (.slice a3 l3.length c3)).heap.size) := by show _ ≤ _; simp only [World.setCell, Array.size_modify]; exact hsz2
  have HR3 := hide (p2.other (b := w.heap.size + 1) (by omega) 2 (.slice a3 l3.length c3))
  have HB3 := hide (((unhide HB2).trans q2).new (b := w.heap.size + 1) (by omega) 2 (.slice a3 l3.length c3))
  have HO3x2 : Hid ((y3.setCell ⟨w.heap.size + 1, 2, none⟩ (.slice a3 l3.length c3)).ownsRow (w.heap.size + 2) 5 1 (.slice a3 l3.length c3) l3.length (ints .u8 l3)) := own_setR (own_monoN r2 (unhide HSZ2)) (by omega) 2 _
  have HC3 := hide (takeInts_r (unhide HR3))
  rw [(unhide HE).2.2.1] at HC3
  simp only at HC3
  clear p2 q2 hx2 hy2 hsz2 r2 HC2
  go_wp2_with fail
  refine (unhide HC3).mono ?_
  rintro e y4 ⟨x3, rfl, r3, p3, q3⟩
  obtain ⟨a4, c4, rfl⟩ := own_shapeN r3
  have hx3 : y4.heap[w.heap.size + 1]? = some (.cells #[.int .i64 n1, .int .i64 n2, .slice a3 l3.length c3, .slice none 0 0, .slice none 0 0, .slice none 0 0] 70) := q3.same (unhide HX3).1 (by omega)
  have hy3 : y4.heap[w.heap.size]? = some (.cells #[.int .i64 0, .int .i64 0, .slice none 0 0, .slice none 0 0, .slice none 0 0, .slice none 0 0] 70) := q3.same (unhide HX3).2 (by omega)
  have k3 : y4.cell? ⟨w.heap.size + 1, 3, none⟩ = some (.slice none 0 0) := cell_of_heap hx3
  have f3 : ∀ o, y4.frozen? ⟨w.heap.size + 1, o, none⟩ = false := fun o => frozen_of_heap hx3
  have HX4 : Hid ((y4.setCell ⟨w.heap.size + 1, 3, none⟩ (.slice a4 l4.length c4)).heap[w.heap.size + 1]? = some (.cells #[.int .i64 n1, .int .i64 n2, .slice a3 l3.length c3, .slice a4 l4.length c4, .slice none 0 0, .slice none 0 0] 70) ∧ (y4.setCell ⟨w.heap.size + 1, 3, none⟩ (.slice a4 l4.length c4)).heap[w.heap.size]? = some (.cells #[.int .i64 0, .int .i64 0, .slice none 0 0, .slice none 0 0, .slice none 0 0, .slice none 0 0] 70)) := ⟨setCell_heap hx3, (Below.heap_setCell _ _ _ _ (fun e => by simp only at e; omega)).trans hy3⟩
  have hsz3 := Nat.le_trans (unhide HSZ3) q3.size
  have HSZ4 : Hid (w.heap.size + 2 ≤ (y4.setCell ⟨w.heap.size + 1, 3, none⟩ (.slice a4 l4.length c4)).heap.size) := by show _ ≤ _; simp only [World.setCell, Array.size_modify]; exact hsz3
  have HR4 := hide (p3.other (b := w.heap.size + 1) (by omega) 3 (.slice a4 l4.length c4))
  have HB4 := hide (((unhide HB3).trans q3).new (b := w.heap.size + 1) (by omega) 3 (.slice a4 l4.length c4))
  have HO3x3 := hide (own_setR (own_keepR (unhide HO3x2) q3 (by omega)) (by omega : w.heap.size + 1 < w.heap.size + 2) 3 (.slice a4 l4.length c4))
  have HO4x3 : Hid ((y4.setCell ⟨w.heap.size + 1, 3, none⟩ (.slice a4 l4.length c4)).ownsRow (w.heap.size + 2) 2 1 (.slice a4 l4.length c4) l4.length (i64C l4)) := own_setR (own_monoN r3 (unhide HSZ3)) (by omega) 3 _
  have HC4 := hide (takeKeys_r (unhide HR4))
  rw [(unhide HE).2.2.2.1] at HC4
  simp only at HC4
  clear p3 q3 hx3 hy3 hsz3 r3 HC3
  go_wp2_with fail
  refine (unhide HC4).mono ?_
  rintro e y5 ⟨x4, rfl, r4, p4, q4⟩
  obtain ⟨a5, c5, rfl⟩ := own_shapeN r4
  have hx4 : y5.heap[w.heap.size + 1]? = some (.cells #[.int .i64 n1, .int .i64 n2, .slice a3 l3.length c3, .slice a4 l4.length c4, .slice none 0 0, .slice none 0 0] 70) := q4.same (unhide HX4).1 (by omega)
  have hy4 : y5.heap[w.heap.size]? = some (.cells #[.int .i64 0, .int .i64 0, .slice none 0 0, .slice none 0 0, .slice none 0 0, .slice none 0 0] 70) := q4.same (unhide HX4).2 (by omega)
  have k4 : y5.cell? ⟨w.heap.size + 1, 4, none⟩ = some (.slice none 0 0) := cell_of_heap hx4
  have f4 : ∀ o, y5.frozen? ⟨w.heap.size + 1, o, none⟩ = false := fun o => frozen_of_heap hx4
  have HX5 : Hid ((y5.setCell ⟨w.heap.size + 1, 4, none⟩ (.slice a5 l5.length c5)).heap[w.heap.size + 1]? = some (.cells #[.int .i64 n1, .int .i64 n2, .slice a3 l3.length c3, .slice a4 l4.length c4, .slice a5 l5.length c5, .slice none 0 0] 70) ∧ (y5.setCell ⟨w.heap.size + 1, 4, none⟩ (.slice a5 l5.length c5)).heap[w.heap.size]? = some (.cells #[.int .i64 0, .int .i64 0, .slice none 0 0, .slice none 0 0, .slice none 0 0, .slice none 0 0] 70)) := ⟨setCell_heap hx4, (Below.heap_setCell _ _ _ _ (fun e => by simp only at e; omega)).trans hy4⟩
  have hsz4 := Nat.le_trans (unhide HSZ4) q4.size
  have HSZ5 : Hid (w.heap.size + 2 ≤ (y5.setCell ⟨w.heap.size + 1, 4, none⟩ (.slice a5 l5.length c5)).heap.size) := by show _ ≤ _; simp only [World.setCell, Array.size_modify]; exact hsz4
  have HR5 := hide (p4.other (b := w.heap.size + 1) (by omega) 4 (.slice a5 l5.length c5))
  have HB5 := hide (((unhide HB4).trans q4).new (b := w.heap.size + 1) (by omega) 4 (.slice a5 l5.length c5))
  have HO3x4 := hide (own_setR (own_keepR (unhide HO3x3) q4 (by omega)) (by omega : w.heap.size + 1 < w.heap.size + 2) 4 (.slice a5 l5.length c5))
  have HO4x4 := hide (own_setR (own_keepR (unhide HO4x3) q4 (by omega)) (by omega : w.heap.size + 1 < w.heap.size + 2) 4 (.slice a5 l5.length c5))
  have HO5x4 : Hid ((y5.setCell ⟨w.heap.size + 1, 4, none⟩ (.slice a5 l5.length c5)).ownsRow (w.heap.size + 2) 91 2 (.slice a5 l5.length c5) l5.length (keyCs l5)) := own_setR (own_monoN r4 (unhide HSZ4)) (by omega) 4 _
  have HC5 := hide (takeKeys_r (unhide HR5))
  rw [(unhide HE).2.2.2.2] at HC5
  simp only at HC5
  clear p4 q4 hx4 hy4 hsz4 r4 HC4
  go_wp2_with fail
  refine (unhide HC5).mono ?_
  rintro e y6 ⟨x5, rfl, r5, p5, q5⟩
  obtain ⟨a6, c6, rfl⟩ := own_shapeN r5
  have hx5 : y6.heap[w.heap.size + 1]? = some (.cells #[.int .i64 n1, .int .i64 n2, .slice a3 l3.length c3, .slice a4 l4.length c4, .slice a5 l5.length c5, .slice none 0 0] 70) := q5.same (unhide HX5).1 (by omega)
  have hy5 : y6.heap[w.heap.size]? = some (.cells #[.int .i64 0, .int .i64 0, .slice none 0 0, .slice none 0 0, .slice none 0 0, .slice none 0 0] 70) := q5.same (unhide HX5).2 (by omega)
  have k5 : y6.cell? ⟨w.heap.size + 1, 5, none⟩ = some (.slice none 0 0) := cell_of_heap hx5
  have f5 : ∀ o, y6.frozen? ⟨w.heap.size + 1, o, none⟩ = false := fun o => frozen_of_heap hx5
  have HX6 : Hid ((y6.setCell ⟨w.heap.size + 1, 5, none⟩ (.slice a6 l6.length c6)).heap[w.heap.size + 1]? = some (.cells #[.int .i64 n1, .int .i64 n2, .slice a3 l3.length c3, .slice a4 l4.length c4, .slice a5 l5.length c5, .slice a6 l6.length c6] 70) ∧ (y6.setCell ⟨w.heap.size + 1, 5, none⟩ (.slice a6 l6.length c6)).heap[w.heap.size]? = some (.cells #[.int .i64 0, .int .i64 0, .slice none 0 0, .slice none 0 0, .slice none 0 0, .slice none 0 0] 70)) := ⟨setCell_heap hx5, (Below.heap_setCell _ _ _ _ (fun e => by simp only at e; omega)).trans hy5⟩
  have hsz5 := Nat.le_trans (unhide HSZ5) q5.size
  have HSZ6 : Hid (w.heap.size + 2 ≤ (y6.setCell ⟨w.heap.size + 1, 5, none⟩ (.slice a6 l6.length c6)).heap.size) := by show _ ≤ _; simp only [World.setCell, Array.size_modify]; exact hsz5
  have HR6 := hide (p5.other (b := w.heap.size + 1) (by omega) 5 (.slice a6 l6.length c6))
  have HB6 := hide (((unhide HB5).trans q5).new (b := w.heap.size + 1) (by omega) 5 (.slice a6 l6.length c6))
  have HO3x5 := hide (own_setR (own_keepR (unhide HO3x4) q5 (by omega)) (by omega : w.heap.size + 1 < w.heap.size + 2) 5 (.slice a6 l6.length c6))
  have HO4x5 := hide (own_setR (own_keepR (unhide HO4x4) q5 (by omega)) (by omega : w.heap.size + 1 < w.heap.size + 2) 5 (.slice a6 l6.length c6))
  have HO5x5 := hide (own_setR (own_keepR (unhide HO5x4) q5 (by omega)) (by omega : w.heap.size + 1 < w.heap.size + 2) 5 (.slice a6 l6.length c6))
  have HO6x5 : Hid ((y6.setCell ⟨w.heap.size + 1, 5, none⟩ (.slice a6 l6.length c6)).ownsRow (w.heap.size + 2) 91 2 (.slice a6 l6.length c6) l6.length (keyCs l6)) := own_setR (own_monoN r5 (unhide HSZ5)) (by omega) 5 _
  clear p5 q5 hx5 hy5 hsz5 r5 HC5
  have m0 := unhide HX6
  obtain ⟨y7, hy7⟩ : ∃ y7, (y6.setCell ⟨w.heap.size + 1, 5, none⟩ (.slice a6 l6.length c6)) = y7 := ⟨_, rfl⟩
  rw [hy7] at m0 HR6 HB6 HO3x5 HO4x5 HO5x5 HO6x5
  have t0 : y7.cell? ⟨w.heap.size + 1, 0, none⟩ = some (.int .i64 n1) := cell_of_heap m0.1
  have t1 : y7.cell? ⟨w.heap.size + 1, 1, none⟩ = some (.int .i64 n2) := cell_of_heap m0.1
  have t2 : y7.cell? ⟨w.heap.size + 1, 2, none⟩ = some (.slice a3 l3.length c3) := cell_of_heap m0.1
  have t3 : y7.cell? ⟨w.heap.size + 1, 3, none⟩ = some (.slice a4 l4.length c4) := cell_of_heap m0.1
  have t4 : y7.cell? ⟨w.heap.size + 1, 4, none⟩ = some (.slice a5 l5.length c5) := cell_of_heap m0.1
  have t5 : y7.cell? ⟨w.heap.size + 1, 5, none⟩ = some (.slice a6 l6.length c6) := cell_of_heap m0.1
  have z0 : y7.cell? ⟨w.heap.size, 0, none⟩ = some (.int .i64 0) := cell_of_heap m0.2
  have z1 : y7.cell? ⟨w.heap.size, 1, none⟩ = some (.int .i64 0) := cell_of_heap m0.2
  have z2 : y7.cell? ⟨w.heap.size, 2, none⟩ = some (.slice none 0 0) := cell_of_heap m0.2
  have z3 : y7.cell? ⟨w.heap.size, 3, none⟩ = some (.slice none 0 0) := cell_of_heap m0.2
  have z4 : y7.cell? ⟨w.heap.size, 4, none⟩ = some (.slice none 0 0) := cell_of_heap m0.2
  have z5 : y7.cell? ⟨w.heap.size, 5, none⟩ = some (.slice none 0 0) := cell_of_heap m0.2
  have fz7 : ∀ o, y7.frozen? ⟨w.heap.size, o, none⟩ = false := fun o => frozen_of_heap m0.2
  have M0 := hide m0
  clear m0
  go_wp2_with fail
  refine bodyPost_ret (results_cell_row rfl _ _ w.heap.size 70 #[.int .i64 n1, .int .i64 n2, .slice a3 l3.length c3, .slice a4 l4.length c4, .slice a5 l5.length c5, .slice a6 l6.length c6] (0, 0) _ rfl (setCell_heap (setCell_heap (setCell_heap (setCell_heap (setCell_heap (setCell_heap (unhide M0).2)))))) Tryz.underlying70 rfl (by kernel_rfl)) rfl ?_
  refine ⟨_, rfl, ⟨_, _, _, _, rfl, ?_, ?_, ?_, ?_⟩, (((((((unhide HR6).other hr _ _).other hr _ _).other hr _ _).other hr _ _).other hr _ _).other hr _ _), (((((((unhide HB6).new (Nat.le_refl _) _ _).new (Nat.le_refl _) _ _).new (Nat.le_refl _) _ _).new (Nat.le_refl _) _ _).new (Nat.le_refl _) _ _).new (Nat.le_refl _) _ _)⟩
  · exact own_monoN (own_setR (own_setR (own_setR (own_setR (own_setR (own_setR (unhide HO3x5) (by omega) _ _) (by omega) _ _) (by omega) _ _) (by omega) _ _) (by omega) _ _) (by omega) _ _) (by omega)
  · exact own_monoN (own_setR (own_setR (own_setR (own_setR (own_setR (own_setR (unhide HO4x5) (by omega) _ _) (by omega) _ _) (by omega) _ _) (by omega) _ _) (by omega) _ _) (by omega) _ _) (by omega)
  · exact own_monoN (own_setR (own_setR (own_setR (own_setR (own_setR (own_setR (unhide HO5x5) (by omega) _ _) (by omega) _ _) (by omega) _ _) (by omega) _ _) (by omega) _ _) (by omega) _ _) (by omega)
  · exact own_monoN (own_setR (own_setR (own_setR (own_setR (own_setR (own_setR (unhide HO6x5) (by omega) _ _) (by omega) _ _) (by omega) _ _) (by omega) _ _) (by omega) _ _) (by omega) _ _) (by omega)
end Go.Proofs.YtggllgimlfchhabGreat
