/- MatchRises: the walk. -/
import Derived.Test.YtgehhoddmmjmjaaMM
namespace Go.Proofs.Ytgehhoddmmjmjaa
open Go.RowKit
set_option maxRecDepth 100000

set_option maxHeartbeats 800000 in
theorem rises_arg (n s l : Int) (sv : Value) (w : World) (h : okNew n s l = false) :
    Calls Try.prog 4 #[.agg #[.int .i64 n, .int .i64 s], .int .i64 l, sv] w fun e w' => e = .returned (.bool true) ∧ Below w.heap.size w w' := by
  obtain ⟨B, hB⟩ : ∃ B, bx w n s = B := ⟨_, rfl⟩
  obtain ⟨q0, q1⟩ := box2b (w := w) (x := B) (by rw [← hB]; exact Below.refl _ _)
  have HB0 : Hid (Below w.heap.size w B) := by rw [← hB]; exact bx_below w n s
  go_enter Try.func4, Try.ntmps4
  go_wp2_with (rw [hB])
  refine (new_arg B n s l h).mono ?_
  rintro e w1 ⟨rfl, hb1⟩
  have HB1 := hide ((unhide HB0).trans (hb1.mono (unhide HB0).size))
  clear hb1 q0 q1
  go_wp2_with fail
  refine (begun_any w1).mono ?_
  rintro e w2 ⟨rfl, hb2⟩
  have HB2 := hide ((unhide HB1).trans (hb2.mono (unhide HB1).size))
  clear hb2
  go_wp2_with fail
  refine (begun_any w2).mono ?_
  rintro e w3 ⟨rfl, hb3⟩
  have HB3 := hide ((unhide HB2).trans (hb3.mono (unhide HB2).size))
  clear hb3
  go_wp2
  go_ret
  exact ⟨rfl, unhide HB3⟩

/-- What lies beside the book h: the row of likes g, the operation o, the group's box. -/
structure Rz (w : World) (n s h g o : Nat) (L : Nat → Int) (q : OpV) (x : World) : Prop where
  ar : ∀ j, j < 5 → x.cell? ⟨g, j, none⟩ = some (.int .i64 (L j))
  fr : ∀ k, x.frozen? ⟨g, k, none⟩ = false
  o0 : x.cell? ⟨o, 0, none⟩ = some (.int .i64 q.act)
  o1 : x.cell? ⟨o, 1, none⟩ = some (.int .i64 q.who)
  o2 : x.cell? ⟨o, 2, none⟩ = some (.int .i64 q.slot)
  lo : Below (w.heap.size + 1) (bx w n s) x
  hg : h ≠ g
  ho : h ≠ o
  go : g ≠ o
  hh : w.heap.size + 1 ≤ h
  gg : w.heap.size + 1 ≤ g
theorem Rz.upd {w : World} {n s h g o : Nat} {L : Nat → Int} {q : OpV} {x y : World} (R : Rz w n s h g o L q x) (hu : Upd (One h) x.heap.size x y) : Rz w n s h g o L q y := by
  have lg := World.block_lt_of_cell? x _ (R.ar 0 (by decide))
  have lo := World.block_lt_of_cell? x _ R.o0
  have cg : ∀ k, y.cell? ⟨g, k, none⟩ = x.cell? ⟨g, k, none⟩ := fun k => hu.cell (p := ⟨g, k, none⟩) lg (fun c => R.hg c.symm)
  have co : ∀ k, y.cell? ⟨o, k, none⟩ = x.cell? ⟨o, k, none⟩ := fun k => hu.cell (p := ⟨o, k, none⟩) lo (fun c => R.ho c.symm)
  refine ⟨fun j hj => by rw [cg, R.ar j hj], fun k => by rw [hu.frozen (p := ⟨g, k, none⟩) lg (fun c => R.hg c.symm), R.fr], by rw [co, R.o0], by rw [co, R.o1], by rw [co, R.o2], R.lo.trans (hu.below (by have := R.lo.size; simp at this; omega) (fun k hk c => ?_)), R.hg, R.ho, R.go, R.hh, R.gg⟩
  have := R.hh; simp only [One] at c; omega
theorem Rz.below {w : World} {n s h g o : Nat} {L : Nat → Int} {q : OpV} {x y : World} (R : Rz w n s h g o L q x) (hb : Below x.heap.size x y) : Rz w n s h g o L q y := R.upd (Upd.of hb)
theorem Rz.drew {w : World} {n s h g o : Nat} {L : Nat → Int} {q : OpV} {x : World} (R : Rz w n s h g o L q x) : Rz w n s h g o L q x.drew := R.below (Below.refl _ _).drew
theorem Rz.set {w : World} {n s h g o : Nat} {L : Nat → Int} {q : OpV} {x : World} (R : Rz w n s h g o L q x) (i : Nat) (hi : i < 5) (v : Int) : Rz w n s h g o (set1 L i v) q (x.setCell ⟨g, i, none⟩ (.int .i64 v)) := by
  have co : ∀ k, (x.setCell ⟨g, i, none⟩ (.int .i64 v)).cell? ⟨o, k, none⟩ = x.cell? ⟨o, k, none⟩ := fun k => cs_other (addr_ne (Or.inl R.go))
  refine ⟨fun j hj => ?_, fun k => by rw [World.frozen?_setCell]; exact R.fr k, by rw [co, R.o0], by rw [co, R.o1], by rw [co, R.o2], R.lo.setCell (p := ⟨g, i, none⟩) R.gg _, R.hg, R.ho, R.go, R.hh, R.gg⟩
  by_cases c : j = i
  · subst c; rw [set1_at]; exact cs_same (R.ar j hj)
  · rw [set1_ne _ _ c, cs_other (addr_ne (Or.inr (Ne.symm c)))]; exact R.ar j hj
theorem Rz.ext {w : World} {n s h g o : Nat} {L L' : Nat → Int} {q : OpV} {x : World} (R : Rz w n s h g o L q x) (e : ∀ j, j < 5 → L j = L' j) : Rz w n s h g o L' q x :=
  ⟨fun j hj => by rw [← e j hj]; exact R.ar j hj, R.fr, R.o0, R.o1, R.o2, R.lo, R.hg, R.ho, R.go, R.hh, R.gg⟩

/-- Where the writing down of the likes stands. -/
def AtLk (w : World) (n s h g o : Nat) (B : Bk) (q : OpV) (c : Value) (x : World) : Prop :=
  ∃ k : Nat, k ≤ 5 ∧ c = .int .i64 k ∧ IsB x h B ∧ Rz w n s h g o (fun j => if j < k then B.like j else 0) q x
/-- Where the looking at them stands. -/
def AtSee (w : World) (n s h g o : Nat) (B C : Bk) (q : OpV) (c : Value) (x : World) : Prop :=
  ∃ k : Nat, k ≤ 5 ∧ c = .int .i64 k ∧ IsB x h C ∧ Rz w n s h g o (fun j => B.like j) q x

/-- What follows upon an operation. -/
structure Foll (B C : Bk) : Prop where
  ok : C.Ok
  n : C.n = B.n
  ag : B.agreed ≤ C.agreed
  len : B.lk B.self ≤ C.lk C.self
  lk : ∀ j, B.lk j ≤ C.lk j
theorem Foll.like {B C : Bk} (F : Foll B C) (j : Nat) : B.like j ≤ C.like j := by
  unfold Bk.like
  have e : C.has j = B.has j := by unfold Bk.has; rw [F.n]
  rw [e]; split
  · exact F.lk _
  · exact Int.le_refl _
theorem Bk.Ok.likes {C : Bk} (O : C.Ok) (j : Nat) : C.like j ≤ C.next j ∧ C.next j ≤ C.lk C.self := by
  unfold Bk.like Bk.next
  cases h : C.has j
  · exact ⟨Int.le_refl _, O.l0 _ O.me⟩
  · obtain ⟨i, hi, h1, _⟩ := Bk.has_is O h
    obtain rfl : j = i := by omega
    exact ⟨O.ln _ h1, O.nl _ h1⟩
theorem foll_told {B : Bk} (O : B.Ok) (x : Int) (yes : Bool) (s : Int) : Foll B (B.toldN x yes s) :=
  ⟨O.toldN _ _ _, (Bk.toldN_n _ _ _ _).1, Bk.toldN_agreed O _ _ _, by rw [(Bk.toldN_n _ _ _ _).2, Bk.toldN_len O]; exact Int.le_refl _, Bk.toldN_le _ _ _ _⟩
theorem foll_grow {B : Bk} (O : B.Ok) (s : Int) : Foll B (B.growN s) :=
  ⟨O.growN _, (Bk.growN_n _ _).1, by unfold Bk.agreed; rw [(Bk.growN_n _ _).1]; exact agr_mono O.pos O.l0 fun t _ => Bk.growN_le B s t, by rw [(Bk.growN_n _ _).2]; exact Bk.growN_le _ _ _, Bk.growN_le _ _⟩
theorem foll_sent {B : Bk} (O : B.Ok) (x s : Int) : Foll B (B.sentN x s) :=
  ⟨O.sentN _ _, (Bk.sentN_n _ _ _).1, by unfold Bk.agreed; rw [(Bk.sentN_n _ _ _).1, (Bk.sentN_n _ _ _).2.2]; exact Int.le_refl _, by rw [(Bk.sentN_n _ _ _).2.1, (Bk.sentN_n _ _ _).2.2]; exact Int.le_refl _, fun j => by rw [(Bk.sentN_n _ _ _).2.2]; exact Int.le_refl _⟩

set_option maxHeartbeats 3200000 in
theorem rises_ok (n s : Nat) (l : Int) (h0 : 1 ≤ n) (h1 : n ≤ 5) (h3 : s < n) (h4 : 0 ≤ l) (h5 : l ≤ 1099511627776) (sv : Value) (m : Nat) (os : Nat → OpV) (w : World) (hs : SeesOps w sv m os) :
    Calls Try.prog 4 #[.agg #[.int .i64 n, .int .i64 s], .int .i64 l, sv] w fun e w' => e = .returned (.bool true) ∧ Below w.heap.size w w' := by
  obtain ⟨B, hB⟩ : ∃ B, bx w n s = B := ⟨_, rfl⟩
  have hsz : B.heap.size = w.heap.size + 1 := by rw [← hB]; exact bx_size w n s
  have HBX : Hid (∀ x, Below (w.heap.size + 1) (bx w n s) x → x.cell? ⟨w.heap.size, 0, none⟩ = some (.int .i64 n) ∧ x.cell? ⟨w.heap.size, 1, none⟩ = some (.int .i64 s)) := fun x hx => box2b hx
  have HB0 : Hid (Below w.heap.size w B) := by rw [← hB]; exact bx_below w n s
  have HS : Hid (∀ w', Below (w.heap.size + 1) (bx w n s) w' → SeesOps w' sv m os ∧ Below w.heap.size w w') := fun w' hb => by
    have := (bx_below w n s).trans (hb.mono (by omega)); exact ⟨hs.below this, this⟩
  obtain ⟨ao, cap0, _, _, rfl, hcap, hmax, _⟩ := id hs
  obtain ⟨q0, q1⟩ := unhide HBX B (by rw [hB]; exact Below.refl _ _)
  have HSZ := hide hsz
  clear hs hsz
  go_enter Try.func4, Try.ntmps4
  go_wp2_with (rw [hB])
  refine (new_ok B n s l h0 h1 h3 h4 h5).mono ?_
  rintro e w1 ⟨rfl, I1, hb1⟩
  have HI1 := hide I1
  have HB1 := hide hb1
  clear hb1 I1 q0 q1
  go_wp2_with fail
  refine (begun_any w1).mono ?_
  rintro e w2 ⟨rfl, hb2⟩
  have HST : Hid (AtOp w n s m (B.heap.size + 1) (.int .i64 0) w2) := ⟨0, Bk.new n s l, Nat.zero_le _, rfl, Bk.new_ok h0 h1 h3 h4 h5, rfl, (unhide HI1).below hb2, by
    rw [hB, ← unhide HSZ]; exact (unhide HB1).trans (hb2.mono (unhide HB1).size)⟩
  have hh : w.heap.size + 1 ≤ B.heap.size + 1 := by have := unhide HSZ; omega
  clear hb2 HI1 HB1
  generalize B.heap.size + 1 = h at HST hh ⊢
  go_wp2
  go_loopw [37] (fun c wr => AtOp w n s m h c wr) (fun c _ => m - (intOf c).toNat)
  case atStart => exact unhide HST
  case round =>
    obtain ⟨t', Bk', ht, rfl, O, hn, I, hE⟩ := hrel
    clear HST
    by_cases hlt : t' < m
    · obtain ⟨⟨ao', cap', gb, ob, hv, _, _, hao, hcl⟩, _⟩ := unhide HS wr hE
      simp only [Value.slice.injEq, true_and] at hv
      obtain ⟨rfl, rfl⟩ := hv
      obtain rfl := hao (by omega)
      obtain ⟨q, hq⟩ : ∃ q, os t' = q := ⟨_, rfl⟩
      have hc := hcl t' hlt
      rw [hq] at hc
      obtain ⟨act, who, slot⟩ := q
      have c0 : wr.cell? ⟨gb, ob + t' * 3, none⟩ = some (.int .i64 act) := hc 0 (by decide)
      have c1 : wr.cell? ⟨gb, ob + t' * 3 + 1, none⟩ = some (.int .i64 who) := hc 1 (by decide)
      have c2 : wr.cell? ⟨gb, ob + t' * 3 + 2, none⟩ = some (.int .i64 slot) := hc 2 (by decide)
      clear hcl hao hq hc
      obtain ⟨X, hX⟩ : ∃ X, wr.alloc (.cells #[.int .i64 act, .int .i64 who, .int .i64 slot] 34) = X := ⟨_, rfl⟩
      have HXs : Hid (X.heap.size = wr.heap.size + 1) := by show _ = _; rw [← hX]; simp
      have HD := hide (box3 (w := wr) (x := X) (by rw [← hX]; exact Below.refl _ _))
      have bX : Below wr.heap.size wr X := by rw [← hX]; exact (Below.refl _ _).alloc (Nat.le_refl _) _
      have HGX := hide (agreed_yes (I.below bX) O)
      have HIX := hide (I.below bX)
      have HO := hide O
      have HhX : Hid (h < wr.heap.size) := I.lt
      have HE1 := hide (hE.trans (bX.mono (by have := hE.size; simp at this; omega)))
      clear I O hE bX
      go_wp2_with (rw [hX])
      refine (unhide HGX).mono ?_
      rintro e w3 ⟨rfl, b3⟩
      have HL3 := hide (length_yes ((unhide HIX).below b3) (unhide HO))
      obtain ⟨Y, hY⟩ : ∃ Y, w3.alloc (.cells #[.int .i64 0, .int .i64 0, .int .i64 0, .int .i64 0, .int .i64 0] 40) = Y := ⟨_, rfl⟩
      have bY : Below w3.heap.size w3 Y := by rw [← hY]; exact (Below.refl _ _).alloc (Nat.le_refl _) _
      have HLK : Hid (AtLk w n s h w3.heap.size wr.heap.size Bk' ⟨act, who, slot⟩ (.int .i64 0) Y) := by
        have hXs := unhide HXs
        have hw3 := b3.size
        have hlt' := unhide HhX
        have hd := unhide HD
        have hce : ∀ k, Y.cell? ⟨wr.heap.size, k, none⟩ = X.cell? ⟨wr.heap.size, k, none⟩ := fun k => by
          rw [bY.cell (p := ⟨wr.heap.size, k, none⟩) (by show wr.heap.size < _; omega), b3.cell (p := ⟨wr.heap.size, k, none⟩) (by show wr.heap.size < _; omega)]
        have hnw := heap_alloc_new w3 (.cells #[.int .i64 0, .int .i64 0, .int .i64 0, .int .i64 0, .int .i64 0] 40)
        rw [hY] at hnw
        have hE1 := unhide HE1
        refine ⟨0, by omega, rfl, ((unhide HIX).below b3).below bY, ⟨fun j hj => ?_, fun k => by unfold World.frozen?; rw [hnw]; simp, by rw [hce]; exact hd.1, by rw [hce]; exact hd.2.1, by rw [hce]; exact hd.2.2, (hE1.trans (b3.mono (by have := hE1.size; simp at this; omega))).trans (bY.mono (by have := hE1.size; simp at this; omega)), by omega, by omega, by omega, hh, by have := hE1.size; simp at this; omega⟩⟩
        have c := cell_of_row Y w3.heap.size j _ _ _ hnw
        rw [c]
        rcases (show j = 0 ∨ j = 1 ∨ j = 2 ∨ j = 3 ∨ j = 4 by omega) with rfl | rfl | rfl | rfl | rfl <;> rfl
      clear b3 bY HIX HE1 HXs HD HGX
      go_wp2_with (first | (go_at_call 14; refine (unhide HL3).mono ?_; rintro e w' ⟨rfl, rfl⟩) | (rw [hY]))
      generalize w3.heap.size = g at HLK ⊢
      generalize wr.heap.size = o at HLK ⊢
      go_loopw [45] (fun c x => AtLk w n s h g o Bk' ⟨act, who, slot⟩ c x) (fun c _ => 5 - (intOf c).toNat)
      case atStart => exact unhide HLK
      case round =>
        obtain ⟨k, hk, rfl, I5, R5⟩ := hrel
        clear HLK
        by_cases hk5 : k < 5
        · have hk0 : (0 : Int) ≤ (k : Int) := by omega
          have hk6 : (k : Int) < 5 := by omega
          have a5 : wr.cell? ⟨g, k, none⟩ = some (.int .i64 0) := by have := R5.ar k hk5; simpa using this
          have f5 := R5.fr
          have HA := hide (like_yes I5 (unhide HO) k)
          have HX : Hid (AtLk w n s h g o Bk' ⟨act, who, slot⟩ (.int .i64 ((k : Int) + 1)) (wr.setCell ⟨g, k, none⟩ (.int .i64 (Bk'.like k)))) := by
            refine ⟨k + 1, by omega, by simp, I5.keepB (Below.heap_setCell _ _ _ _ (fun e => R5.hg (by simpa using e))), (R5.set k hk5 _).ext fun j hj => ?_⟩
            simp only [set1]
            by_cases c : j = k
            · subst c; simp
            · rw [if_neg c]; by_cases c2 : j < k
              · rw [if_pos c2, if_pos (by omega)]
              · rw [if_neg c2, if_neg (by omega)]
          clear I5 R5
          go_wp2_with (first | (go_at_call 15; refine (unhide HA).mono ?_; rintro e w' ⟨rfl, rfl⟩))
          go_roundw
          case rel => exact unhide HX
          case measure => simp [intOf]; omega
        obtain rfl : k = 5 := by omega
        have HR5 := hide (R5.ext (L' := fun j => Bk'.like j) fun j hj => by rw [if_pos hj])
        have HI5 := hide I5
        clear I5 R5
        rcases (show act = 0 ∨ act = 1 ∨ (act ≠ 0 ∧ act ≠ 1) by omega) with rfl | rfl | ⟨ac0, ac1⟩
        · have HC := hide (grow_any (unhide HI5) (unhide HO) slot)
          have HF : Hid (Foll Bk' (Bk'.growN slot)) := foll_grow (unhide HO) slot
          have hag := (unhide HF).ag
          have hln := (unhide HF).len
          obtain ⟨aC, hagC⟩ : ∃ aC, (Bk'.growN slot).agreed = aC := ⟨_, rfl⟩
          obtain ⟨lC, hlnC⟩ : ∃ lC, (Bk'.growN slot).lk (Bk'.growN slot).self = lC := ⟨_, rfl⟩
          rw [hagC] at hag
          rw [hlnC] at hln
          have o0 := (unhide HR5).o0; have o1 := (unhide HR5).o1; have o2 := (unhide HR5).o2
          go_wp2_with fail
          refine (unhide HC).mono ?_
          rintro e w6 ⟨rfl, I6, u6⟩
          have HI6 := hide I6
          have HR6 := hide ((unhide HR5).upd u6)
          have HG6 := hide (agreed_yes I6 (unhide HF).ok)
          rw [hagC] at HG6
          clear I6 u6 o0 o1 o2
          go_wp2_with fail
          refine (unhide HG6).mono ?_
          rintro e w7 ⟨rfl, b7⟩
          have HL7 := hide (length_yes ((unhide HI6).below b7) (unhide HF).ok)
          have HI7 := hide ((unhide HI6).below b7)
          have HR7 := hide ((unhide HR6).below b7)
          have HG7 := hide (agreed_yes (unhide HI7) (unhide HF).ok)
          rw [hagC] at HG7
          rw [hlnC] at HL7
          clear b7
          go_wp2_with (first | (go_at_call 14; refine (unhide HL7).mono ?_; rintro e w' ⟨rfl, rfl⟩))
          have HI8 := HI7
          have HR8 := HR7
          clear HI7 HR7 HI6 HR6
          go_loopw [103] (fun c x => AtSee w n s h g o Bk' (Bk'.growN slot) ⟨0, who, slot⟩ c x) (fun c _ => 5 - (intOf c).toNat)
          case atStart => exact ⟨0, by omega, rfl, unhide HI8, unhide HR8⟩
          case round =>
            obtain ⟨k, hk, rfl, I9, R9⟩ := hrel
            by_cases hk5 : k < 5
            · have hk0 : (0 : Int) ≤ (k : Int) := by omega
              have hk6 : (k : Int) < 5 := by omega
              have a9 : wr.drew.cell? ⟨g, k, none⟩ = some (.int .i64 (Bk'.like k)) := R9.ar k hk5
              have HA := hide (like_yes I9.drew (unhide HF).ok k)
              have HN := hide (next_yes I9.drew (unhide HF).ok k)
              have HL := hide (length_yes I9.drew (unhide HF).ok)
              have f1 := (unhide HF).like k
              have f2 := (unhide HF).ok.likes k
              have f3 := f2.2
              have f4 := f2.1
              rw [hlnC] at f3 HL
              have HX : Hid (AtSee w n s h g o Bk' (Bk'.growN slot) ⟨0, who, slot⟩ (.int .i64 ((k : Int) + 1)) wr.drew) := ⟨k + 1, by omega, by simp, I9.drew, R9.drew⟩
              clear I9 R9 f2
              generalize Bk'.like k = z0 at *
              generalize (Bk'.growN slot).like k = z1 at *
              generalize (Bk'.growN slot).next k = z2 at *
              go_wp2
              refine wp_region_held_drew (S := fun x => x.cell? ⟨g, k, none⟩ = some (.int .i64 z0)) (by kernel_rfl) a9 (fun hHeld => ?_)
              refine wpAnyH_take (i := 0) (v := ?v1x0) rfl (by kernel_rfl) (by kernel_rfl) (by kernel_rfl) (fun _ _ _ h => h) (Or.inl ⟨by rfl, ?hy1x0⟩) (by assumption) ?rest1x0
              case hy1x0 => intro w hSw; go_simp <;> with_reducible rfl
              simp only [Act.put, List.getElem_toArray, List.getElem_cons_zero, List.setIfInBounds_toArray, List.set_cons_zero, List.set_cons_succ]
              refine wpAnyH_take (i := 1) (v := ?v2x1) rfl (by kernel_rfl) (by kernel_rfl) (by kernel_rfl) (fun _ _ _ h => h) (Or.inl ⟨by rfl, ?hy2x1⟩) (by assumption) ?rest2x1
              case hy2x1 => intro w hSw; go_simp <;> with_reducible rfl
              simp only [Act.put, List.getElem_toArray, List.getElem_cons_zero, List.getElem_cons_succ, List.setIfInBounds_toArray, List.set_cons_zero, List.set_cons_succ]
              refine wpAnyH_take (i := 3) (v := ?v3x3) rfl (by kernel_rfl) (by kernel_rfl) (by kernel_rfl) (fun _ _ _ h => h) (Or.inl ⟨by rfl, ?hy3x3⟩) (by assumption) ?rest3x3
              case hy3x3 => intro w hSw; go_simp <;> with_reducible rfl
              simp only [Act.put, List.getElem_toArray, List.getElem_cons_zero, List.getElem_cons_succ, List.setIfInBounds_toArray, List.set_cons_zero, List.set_cons_succ]
              refine wpAnyH_take (i := 4) (v := ?v4x4) rfl (by kernel_rfl) (by kernel_rfl) (by kernel_rfl) (fun _ _ _ h => h) (Or.inl ⟨by rfl, ?hy4x4⟩) (by assumption) ?rest4x4
              case hy4x4 => intro w hSw; go_simp <;> with_reducible rfl
              simp only [Act.put, List.getElem_toArray, List.getElem_cons_zero, List.getElem_cons_succ, List.setIfInBounds_toArray, List.set_cons_zero, List.set_cons_succ]
              refine wpAnyH_take (i := 5) (v := ?v5x5) rfl (by kernel_rfl) (by kernel_rfl) (by kernel_rfl) (fun _ _ _ h => h) (Or.inl ⟨by rfl, ?hy5x5⟩) (by assumption) ?rest5x5
              case hy5x5 => intro w hSw; go_simp <;> with_reducible rfl
              simp only [Act.put, List.getElem_toArray, List.getElem_cons_zero, List.getElem_cons_succ, List.setIfInBounds_toArray, List.set_cons_zero, List.set_cons_succ]
              refine wpAnyH_ready (rs := [2]) (by kernel_rfl) (by simp) ?_
              refine AllReadyH.cons rfl (fun K hK => ?_) AllReadyH.nil
              go_simp
              refine (unhide HA).mono ?_
              rintro e wq ⟨rfl, rfl⟩
              refine hK _ _ a9 ?_
              clear hK hHeld
              intro hHeld
              refine wpAnyH_take (i := 6) (v := (.bool false)) rfl (by kernel_rfl) (by kernel_rfl) (by kernel_rfl) (fun _ _ _ h => h) (Or.inl ⟨by rfl, ?hy6x6⟩) (by assumption) ?rest6x6
              case hy6x6 => intro w hSw; go_simp <;> with_reducible rfl
              simp only [Act.put, List.getElem_toArray, List.getElem_cons_zero, List.getElem_cons_succ, List.setIfInBounds_toArray, List.set_cons_zero, List.set_cons_succ]
              refine wpAnyH_take (i := 7) (v := ?v7x7) rfl (by kernel_rfl) (by kernel_rfl) (by kernel_rfl) (fun _ _ _ h => h) (Or.inl ⟨by rfl, ?hy7x7⟩) (by assumption) ?rest7x7
              case hy7x7 => intro w hSw; go_simp <;> with_reducible rfl
              simp only [Act.put, List.getElem_toArray, List.getElem_cons_zero, List.getElem_cons_succ, List.setIfInBounds_toArray, List.set_cons_zero, List.set_cons_succ]
              refine wpAnyH_take (i := 8) (v := ?v8x8) rfl (by kernel_rfl) (by kernel_rfl) (by kernel_rfl) (fun _ _ _ h => h) (Or.inl ⟨by rfl, ?hy8x8⟩) (by assumption) ?rest8x8
              case hy8x8 => intro w hSw; go_simp <;> with_reducible rfl
              simp only [Act.put, List.getElem_toArray, List.getElem_cons_zero, List.getElem_cons_succ, List.setIfInBounds_toArray, List.set_cons_zero, List.set_cons_succ]
              refine wpAnyH_take (i := 9) (v := ?v9x9) rfl (by kernel_rfl) (by kernel_rfl) (by kernel_rfl) (fun _ _ _ h => h) (Or.inl ⟨by rfl, ?hy9x9⟩) (by assumption) ?rest9x9
              case hy9x9 => intro w hSw; go_simp <;> with_reducible rfl
              simp only [Act.put, List.getElem_toArray, List.getElem_cons_zero, List.getElem_cons_succ, List.setIfInBounds_toArray, List.set_cons_zero, List.set_cons_succ]
              refine wpAnyH_take (i := 11) (v := ?v10x11) rfl (by kernel_rfl) (by kernel_rfl) (by kernel_rfl) (fun _ _ _ h => h) (Or.inl ⟨by rfl, ?hy10x11⟩) (by assumption) ?rest10x11
              case hy10x11 => intro w hSw; go_simp <;> with_reducible rfl
              simp only [Act.put, List.getElem_toArray, List.getElem_cons_zero, List.getElem_cons_succ, List.setIfInBounds_toArray, List.set_cons_zero, List.set_cons_succ]
              refine wpAnyH_take (i := 12) (v := ?v11x12) rfl (by kernel_rfl) (by kernel_rfl) (by kernel_rfl) (fun _ _ _ h => h) (Or.inl ⟨by rfl, ?hy11x12⟩) (by assumption) ?rest11x12
              case hy11x12 => intro w hSw; go_simp <;> with_reducible rfl
              simp only [Act.put, List.getElem_toArray, List.getElem_cons_zero, List.getElem_cons_succ, List.setIfInBounds_toArray, List.set_cons_zero, List.set_cons_succ]
              refine wpAnyH_ready (rs := [10]) (by kernel_rfl) (by simp) ?_
              refine AllReadyH.cons rfl (fun K hK => ?_) AllReadyH.nil
              go_simp
              refine (unhide HA).mono ?_
              rintro e wq ⟨rfl, rfl⟩
              refine hK _ _ a9 ?_
              clear hK hHeld
              intro hHeld
              refine wpAnyH_ready (rs := [13]) (by kernel_rfl) (by simp) ?_
              refine AllReadyH.cons rfl (fun K hK => ?_) AllReadyH.nil
              go_simp
              refine (unhide HN).mono ?_
              rintro e wq ⟨rfl, rfl⟩
              refine hK _ _ a9 ?_
              clear hK hHeld
              intro hHeld
              refine wpAnyH_take (i := 14) (v := (.bool false)) rfl (by kernel_rfl) (by kernel_rfl) (by kernel_rfl) (fun _ _ _ h => h) (Or.inl ⟨by rfl, ?hy12x14⟩) (by assumption) ?rest12x14
              case hy12x14 => intro w hSw; go_simp <;> with_reducible rfl
              simp only [Act.put, List.getElem_toArray, List.getElem_cons_zero, List.getElem_cons_succ, List.setIfInBounds_toArray, List.set_cons_zero, List.set_cons_succ]
              refine wpAnyH_take (i := 15) (v := ?v13x15) rfl (by kernel_rfl) (by kernel_rfl) (by kernel_rfl) (fun _ _ _ h => h) (Or.inl ⟨by rfl, ?hy13x15⟩) (by assumption) ?rest13x15
              case hy13x15 => intro w hSw; go_simp <;> with_reducible rfl
              simp only [Act.put, List.getElem_toArray, List.getElem_cons_zero, List.getElem_cons_succ, List.setIfInBounds_toArray, List.set_cons_zero, List.set_cons_succ]
              refine wpAnyH_take (i := 16) (v := ?v14x16) rfl (by kernel_rfl) (by kernel_rfl) (by kernel_rfl) (fun _ _ _ h => h) (Or.inl ⟨by rfl, ?hy14x16⟩) (by assumption) ?rest14x16
              case hy14x16 => intro w hSw; go_simp <;> with_reducible rfl
              simp only [Act.put, List.getElem_toArray, List.getElem_cons_zero, List.getElem_cons_succ, List.setIfInBounds_toArray, List.set_cons_zero, List.set_cons_succ]
              refine wpAnyH_take (i := 17) (v := ?v15x17) rfl (by kernel_rfl) (by kernel_rfl) (by kernel_rfl) (fun _ _ _ h => h) (Or.inl ⟨by rfl, ?hy15x17⟩) (by assumption) ?rest15x17
              case hy15x17 => intro w hSw; go_simp <;> with_reducible rfl
              simp only [Act.put, List.getElem_toArray, List.getElem_cons_zero, List.getElem_cons_succ, List.setIfInBounds_toArray, List.set_cons_zero, List.set_cons_succ]
              refine wpAnyH_take (i := 18) (v := ?v16x18) rfl (by kernel_rfl) (by kernel_rfl) (by kernel_rfl) (fun _ _ _ h => h) (Or.inl ⟨by rfl, ?hy16x18⟩) (by assumption) ?rest16x18
              case hy16x18 => intro w hSw; go_simp <;> with_reducible rfl
              simp only [Act.put, List.getElem_toArray, List.getElem_cons_zero, List.getElem_cons_succ, List.setIfInBounds_toArray, List.set_cons_zero, List.set_cons_succ]
              refine wpAnyH_take (i := 20) (v := ?v17x20) rfl (by kernel_rfl) (by kernel_rfl) (by kernel_rfl) (fun _ _ _ h => h) (Or.inl ⟨by rfl, ?hy17x20⟩) (by assumption) ?rest17x20
              case hy17x20 => intro w hSw; go_simp <;> with_reducible rfl
              simp only [Act.put, List.getElem_toArray, List.getElem_cons_zero, List.getElem_cons_succ, List.setIfInBounds_toArray, List.set_cons_zero, List.set_cons_succ]
              refine wpAnyH_ready (rs := [19]) (by kernel_rfl) (by simp) ?_
              refine AllReadyH.cons rfl (fun K hK => ?_) AllReadyH.nil
              go_simp
              refine (unhide HN).mono ?_
              rintro e wq ⟨rfl, rfl⟩
              refine hK _ _ a9 ?_
              clear hK hHeld
              intro hHeld
              refine wpAnyH_ready (rs := [21]) (by kernel_rfl) (by simp) ?_
              refine AllReadyH.cons rfl (fun K hK => ?_) AllReadyH.nil
              go_simp
              refine (unhide HL).mono ?_
              rintro e wq ⟨rfl, rfl⟩
              refine hK _ _ a9 ?_
              clear hK hHeld
              intro hHeld
              refine wpAnyH_take (i := 22) (v := (.bool false)) rfl (by kernel_rfl) (by kernel_rfl) (by kernel_rfl) (fun _ _ _ h => h) (Or.inl ⟨by rfl, ?hy18x22⟩) (by assumption) ?rest18x22
              case hy18x22 => intro w hSw; go_simp <;> with_reducible rfl
              simp only [Act.put, List.getElem_toArray, List.getElem_cons_zero, List.getElem_cons_succ, List.setIfInBounds_toArray, List.set_cons_zero, List.set_cons_succ]
              refine wpAnyH_take (i := 23) (v := ?v19x23) rfl (by kernel_rfl) (by kernel_rfl) (by kernel_rfl) (fun _ _ _ h => h) (Or.inl ⟨by rfl, ?hy19x23⟩) (by assumption) ?rest19x23
              case hy19x23 => intro w hSw; go_simp <;> with_reducible rfl
              simp only [Act.put, List.getElem_toArray, List.getElem_cons_zero, List.getElem_cons_succ, List.setIfInBounds_toArray, List.set_cons_zero, List.set_cons_succ]
              refine wpAnyH_done (by kernel_rfl) ?_ _
              go_wp2
              go_roundw
              case rel => exact unhide HX
              case measure => simp [intOf]; omega
            · have HX : Hid (AtOp w n s m h (.int .i64 ((t' : Int) + 1)) wr) := ⟨t' + 1, _, by omega, by simp, (unhide HF).ok, (unhide HF).n.trans hn, I9, R9.lo⟩
              clear I9 R9
              go_wp2
              go_roundw
              case rel => exact unhide HX
              case measure => simp [intOf]; omega
        · have HC := hide (sent_any (unhide HI5) (unhide HO) who slot)
          have HF : Hid (Foll Bk' (Bk'.sentN who slot)) := foll_sent (unhide HO) who slot
          have hag := (unhide HF).ag
          have hln := (unhide HF).len
          obtain ⟨aC, hagC⟩ : ∃ aC, (Bk'.sentN who slot).agreed = aC := ⟨_, rfl⟩
          obtain ⟨lC, hlnC⟩ : ∃ lC, (Bk'.sentN who slot).lk (Bk'.sentN who slot).self = lC := ⟨_, rfl⟩
          rw [hagC] at hag
          rw [hlnC] at hln
          have o0 := (unhide HR5).o0; have o1 := (unhide HR5).o1; have o2 := (unhide HR5).o2
          go_wp2_with fail
          refine (unhide HC).mono ?_
          rintro e w6 ⟨rfl, I6, u6⟩
          have HI6 := hide I6
          have HR6 := hide ((unhide HR5).upd u6)
          have HG6 := hide (agreed_yes I6 (unhide HF).ok)
          rw [hagC] at HG6
          clear I6 u6 o0 o1 o2
          go_wp2_with fail
          refine (unhide HG6).mono ?_
          rintro e w7 ⟨rfl, b7⟩
          have HL7 := hide (length_yes ((unhide HI6).below b7) (unhide HF).ok)
          have HI7 := hide ((unhide HI6).below b7)
          have HR7 := hide ((unhide HR6).below b7)
          have HG7 := hide (agreed_yes (unhide HI7) (unhide HF).ok)
          rw [hagC] at HG7
          rw [hlnC] at HL7
          clear b7
          go_wp2_with (first | (go_at_call 14; refine (unhide HL7).mono ?_; rintro e w' ⟨rfl, rfl⟩))
          have HI8 := HI7
          have HR8 := HR7
          clear HI7 HR7 HI6 HR6
          go_loopw [103] (fun c x => AtSee w n s h g o Bk' (Bk'.sentN who slot) ⟨1, who, slot⟩ c x) (fun c _ => 5 - (intOf c).toNat)
          case atStart => exact ⟨0, by omega, rfl, unhide HI8, unhide HR8⟩
          case round =>
            obtain ⟨k, hk, rfl, I9, R9⟩ := hrel
            by_cases hk5 : k < 5
            · have hk0 : (0 : Int) ≤ (k : Int) := by omega
              have hk6 : (k : Int) < 5 := by omega
              have a9 : wr.drew.cell? ⟨g, k, none⟩ = some (.int .i64 (Bk'.like k)) := R9.ar k hk5
              have HA := hide (like_yes I9.drew (unhide HF).ok k)
              have HN := hide (next_yes I9.drew (unhide HF).ok k)
              have HL := hide (length_yes I9.drew (unhide HF).ok)
              have f1 := (unhide HF).like k
              have f2 := (unhide HF).ok.likes k
              have f3 := f2.2
              have f4 := f2.1
              rw [hlnC] at f3 HL
              have HX : Hid (AtSee w n s h g o Bk' (Bk'.sentN who slot) ⟨1, who, slot⟩ (.int .i64 ((k : Int) + 1)) wr.drew) := ⟨k + 1, by omega, by simp, I9.drew, R9.drew⟩
              clear I9 R9 f2
              generalize Bk'.like k = z0 at *
              generalize (Bk'.sentN who slot).like k = z1 at *
              generalize (Bk'.sentN who slot).next k = z2 at *
              go_wp2
              refine wp_region_held_drew (S := fun x => x.cell? ⟨g, k, none⟩ = some (.int .i64 z0)) (by kernel_rfl) a9 (fun hHeld => ?_)
              refine wpAnyH_take (i := 0) (v := ?v20x0) rfl (by kernel_rfl) (by kernel_rfl) (by kernel_rfl) (fun _ _ _ h => h) (Or.inl ⟨by rfl, ?hy20x0⟩) (by assumption) ?rest20x0
              case hy20x0 => intro w hSw; go_simp <;> with_reducible rfl
              simp only [Act.put, List.getElem_toArray, List.getElem_cons_zero, List.setIfInBounds_toArray, List.set_cons_zero, List.set_cons_succ]
              refine wpAnyH_take (i := 1) (v := ?v21x1) rfl (by kernel_rfl) (by kernel_rfl) (by kernel_rfl) (fun _ _ _ h => h) (Or.inl ⟨by rfl, ?hy21x1⟩) (by assumption) ?rest21x1
              case hy21x1 => intro w hSw; go_simp <;> with_reducible rfl
              simp only [Act.put, List.getElem_toArray, List.getElem_cons_zero, List.getElem_cons_succ, List.setIfInBounds_toArray, List.set_cons_zero, List.set_cons_succ]
              refine wpAnyH_take (i := 3) (v := ?v22x3) rfl (by kernel_rfl) (by kernel_rfl) (by kernel_rfl) (fun _ _ _ h => h) (Or.inl ⟨by rfl, ?hy22x3⟩) (by assumption) ?rest22x3
              case hy22x3 => intro w hSw; go_simp <;> with_reducible rfl
              simp only [Act.put, List.getElem_toArray, List.getElem_cons_zero, List.getElem_cons_succ, List.setIfInBounds_toArray, List.set_cons_zero, List.set_cons_succ]
              refine wpAnyH_take (i := 4) (v := ?v23x4) rfl (by kernel_rfl) (by kernel_rfl) (by kernel_rfl) (fun _ _ _ h => h) (Or.inl ⟨by rfl, ?hy23x4⟩) (by assumption) ?rest23x4
              case hy23x4 => intro w hSw; go_simp <;> with_reducible rfl
              simp only [Act.put, List.getElem_toArray, List.getElem_cons_zero, List.getElem_cons_succ, List.setIfInBounds_toArray, List.set_cons_zero, List.set_cons_succ]
              refine wpAnyH_take (i := 5) (v := ?v24x5) rfl (by kernel_rfl) (by kernel_rfl) (by kernel_rfl) (fun _ _ _ h => h) (Or.inl ⟨by rfl, ?hy24x5⟩) (by assumption) ?rest24x5
              case hy24x5 => intro w hSw; go_simp <;> with_reducible rfl
              simp only [Act.put, List.getElem_toArray, List.getElem_cons_zero, List.getElem_cons_succ, List.setIfInBounds_toArray, List.set_cons_zero, List.set_cons_succ]
              refine wpAnyH_ready (rs := [2]) (by kernel_rfl) (by simp) ?_
              refine AllReadyH.cons rfl (fun K hK => ?_) AllReadyH.nil
              go_simp
              refine (unhide HA).mono ?_
              rintro e wq ⟨rfl, rfl⟩
              refine hK _ _ a9 ?_
              clear hK hHeld
              intro hHeld
              refine wpAnyH_take (i := 6) (v := (.bool false)) rfl (by kernel_rfl) (by kernel_rfl) (by kernel_rfl) (fun _ _ _ h => h) (Or.inl ⟨by rfl, ?hy25x6⟩) (by assumption) ?rest25x6
              case hy25x6 => intro w hSw; go_simp <;> with_reducible rfl
              simp only [Act.put, List.getElem_toArray, List.getElem_cons_zero, List.getElem_cons_succ, List.setIfInBounds_toArray, List.set_cons_zero, List.set_cons_succ]
              refine wpAnyH_take (i := 7) (v := ?v26x7) rfl (by kernel_rfl) (by kernel_rfl) (by kernel_rfl) (fun _ _ _ h => h) (Or.inl ⟨by rfl, ?hy26x7⟩) (by assumption) ?rest26x7
              case hy26x7 => intro w hSw; go_simp <;> with_reducible rfl
              simp only [Act.put, List.getElem_toArray, List.getElem_cons_zero, List.getElem_cons_succ, List.setIfInBounds_toArray, List.set_cons_zero, List.set_cons_succ]
              refine wpAnyH_take (i := 8) (v := ?v27x8) rfl (by kernel_rfl) (by kernel_rfl) (by kernel_rfl) (fun _ _ _ h => h) (Or.inl ⟨by rfl, ?hy27x8⟩) (by assumption) ?rest27x8
              case hy27x8 => intro w hSw; go_simp <;> with_reducible rfl
              simp only [Act.put, List.getElem_toArray, List.getElem_cons_zero, List.getElem_cons_succ, List.setIfInBounds_toArray, List.set_cons_zero, List.set_cons_succ]
              refine wpAnyH_take (i := 9) (v := ?v28x9) rfl (by kernel_rfl) (by kernel_rfl) (by kernel_rfl) (fun _ _ _ h => h) (Or.inl ⟨by rfl, ?hy28x9⟩) (by assumption) ?rest28x9
              case hy28x9 => intro w hSw; go_simp <;> with_reducible rfl
              simp only [Act.put, List.getElem_toArray, List.getElem_cons_zero, List.getElem_cons_succ, List.setIfInBounds_toArray, List.set_cons_zero, List.set_cons_succ]
              refine wpAnyH_take (i := 11) (v := ?v29x11) rfl (by kernel_rfl) (by kernel_rfl) (by kernel_rfl) (fun _ _ _ h => h) (Or.inl ⟨by rfl, ?hy29x11⟩) (by assumption) ?rest29x11
              case hy29x11 => intro w hSw; go_simp <;> with_reducible rfl
              simp only [Act.put, List.getElem_toArray, List.getElem_cons_zero, List.getElem_cons_succ, List.setIfInBounds_toArray, List.set_cons_zero, List.set_cons_succ]
              refine wpAnyH_take (i := 12) (v := ?v30x12) rfl (by kernel_rfl) (by kernel_rfl) (by kernel_rfl) (fun _ _ _ h => h) (Or.inl ⟨by rfl, ?hy30x12⟩) (by assumption) ?rest30x12
              case hy30x12 => intro w hSw; go_simp <;> with_reducible rfl
              simp only [Act.put, List.getElem_toArray, List.getElem_cons_zero, List.getElem_cons_succ, List.setIfInBounds_toArray, List.set_cons_zero, List.set_cons_succ]
              refine wpAnyH_ready (rs := [10]) (by kernel_rfl) (by simp) ?_
              refine AllReadyH.cons rfl (fun K hK => ?_) AllReadyH.nil
              go_simp
              refine (unhide HA).mono ?_
              rintro e wq ⟨rfl, rfl⟩
              refine hK _ _ a9 ?_
              clear hK hHeld
              intro hHeld
              refine wpAnyH_ready (rs := [13]) (by kernel_rfl) (by simp) ?_
              refine AllReadyH.cons rfl (fun K hK => ?_) AllReadyH.nil
              go_simp
              refine (unhide HN).mono ?_
              rintro e wq ⟨rfl, rfl⟩
              refine hK _ _ a9 ?_
              clear hK hHeld
              intro hHeld
              refine wpAnyH_take (i := 14) (v := (.bool false)) rfl (by kernel_rfl) (by kernel_rfl) (by kernel_rfl) (fun _ _ _ h => h) (Or.inl ⟨by rfl, ?hy31x14⟩) (by assumption) ?rest31x14
              case hy31x14 => intro w hSw; go_simp <;> with_reducible rfl
              simp only [Act.put, List.getElem_toArray, List.getElem_cons_zero, List.getElem_cons_succ, List.setIfInBounds_toArray, List.set_cons_zero, List.set_cons_succ]
              refine wpAnyH_take (i := 15) (v := ?v32x15) rfl (by kernel_rfl) (by kernel_rfl) (by kernel_rfl) (fun _ _ _ h => h) (Or.inl ⟨by rfl, ?hy32x15⟩) (by assumption) ?rest32x15
              case hy32x15 => intro w hSw; go_simp <;> with_reducible rfl
              simp only [Act.put, List.getElem_toArray, List.getElem_cons_zero, List.getElem_cons_succ, List.setIfInBounds_toArray, List.set_cons_zero, List.set_cons_succ]
              refine wpAnyH_take (i := 16) (v := ?v33x16) rfl (by kernel_rfl) (by kernel_rfl) (by kernel_rfl) (fun _ _ _ h => h) (Or.inl ⟨by rfl, ?hy33x16⟩) (by assumption) ?rest33x16
              case hy33x16 => intro w hSw; go_simp <;> with_reducible rfl
              simp only [Act.put, List.getElem_toArray, List.getElem_cons_zero, List.getElem_cons_succ, List.setIfInBounds_toArray, List.set_cons_zero, List.set_cons_succ]
              refine wpAnyH_take (i := 17) (v := ?v34x17) rfl (by kernel_rfl) (by kernel_rfl) (by kernel_rfl) (fun _ _ _ h => h) (Or.inl ⟨by rfl, ?hy34x17⟩) (by assumption) ?rest34x17
              case hy34x17 => intro w hSw; go_simp <;> with_reducible rfl
              simp only [Act.put, List.getElem_toArray, List.getElem_cons_zero, List.getElem_cons_succ, List.setIfInBounds_toArray, List.set_cons_zero, List.set_cons_succ]
              refine wpAnyH_take (i := 18) (v := ?v35x18) rfl (by kernel_rfl) (by kernel_rfl) (by kernel_rfl) (fun _ _ _ h => h) (Or.inl ⟨by rfl, ?hy35x18⟩) (by assumption) ?rest35x18
              case hy35x18 => intro w hSw; go_simp <;> with_reducible rfl
              simp only [Act.put, List.getElem_toArray, List.getElem_cons_zero, List.getElem_cons_succ, List.setIfInBounds_toArray, List.set_cons_zero, List.set_cons_succ]
              refine wpAnyH_take (i := 20) (v := ?v36x20) rfl (by kernel_rfl) (by kernel_rfl) (by kernel_rfl) (fun _ _ _ h => h) (Or.inl ⟨by rfl, ?hy36x20⟩) (by assumption) ?rest36x20
              case hy36x20 => intro w hSw; go_simp <;> with_reducible rfl
              simp only [Act.put, List.getElem_toArray, List.getElem_cons_zero, List.getElem_cons_succ, List.setIfInBounds_toArray, List.set_cons_zero, List.set_cons_succ]
              refine wpAnyH_ready (rs := [19]) (by kernel_rfl) (by simp) ?_
              refine AllReadyH.cons rfl (fun K hK => ?_) AllReadyH.nil
              go_simp
              refine (unhide HN).mono ?_
              rintro e wq ⟨rfl, rfl⟩
              refine hK _ _ a9 ?_
              clear hK hHeld
              intro hHeld
              refine wpAnyH_ready (rs := [21]) (by kernel_rfl) (by simp) ?_
              refine AllReadyH.cons rfl (fun K hK => ?_) AllReadyH.nil
              go_simp
              refine (unhide HL).mono ?_
              rintro e wq ⟨rfl, rfl⟩
              refine hK _ _ a9 ?_
              clear hK hHeld
              intro hHeld
              refine wpAnyH_take (i := 22) (v := (.bool false)) rfl (by kernel_rfl) (by kernel_rfl) (by kernel_rfl) (fun _ _ _ h => h) (Or.inl ⟨by rfl, ?hy37x22⟩) (by assumption) ?rest37x22
              case hy37x22 => intro w hSw; go_simp <;> with_reducible rfl
              simp only [Act.put, List.getElem_toArray, List.getElem_cons_zero, List.getElem_cons_succ, List.setIfInBounds_toArray, List.set_cons_zero, List.set_cons_succ]
              refine wpAnyH_take (i := 23) (v := ?v38x23) rfl (by kernel_rfl) (by kernel_rfl) (by kernel_rfl) (fun _ _ _ h => h) (Or.inl ⟨by rfl, ?hy38x23⟩) (by assumption) ?rest38x23
              case hy38x23 => intro w hSw; go_simp <;> with_reducible rfl
              simp only [Act.put, List.getElem_toArray, List.getElem_cons_zero, List.getElem_cons_succ, List.setIfInBounds_toArray, List.set_cons_zero, List.set_cons_succ]
              refine wpAnyH_done (by kernel_rfl) ?_ _
              go_wp2
              go_roundw
              case rel => exact unhide HX
              case measure => simp [intOf]; omega
            · have HX : Hid (AtOp w n s m h (.int .i64 ((t' : Int) + 1)) wr) := ⟨t' + 1, _, by omega, by simp, (unhide HF).ok, (unhide HF).n.trans hn, I9, R9.lo⟩
              clear I9 R9
              go_wp2
              go_roundw
              case rel => exact unhide HX
              case measure => simp [intOf]; omega
        · have HC := hide (told_any (unhide HI5) (unhide HO) who (act != 3) slot)
          have HF : Hid (Foll Bk' (Bk'.toldN who (act != 3) slot)) := foll_told (unhide HO) who (act != 3) slot
          have hag := (unhide HF).ag
          have hln := (unhide HF).len
          obtain ⟨aC, hagC⟩ : ∃ aC, (Bk'.toldN who (act != 3) slot).agreed = aC := ⟨_, rfl⟩
          obtain ⟨lC, hlnC⟩ : ∃ lC, (Bk'.toldN who (act != 3) slot).lk (Bk'.toldN who (act != 3) slot).self = lC := ⟨_, rfl⟩
          rw [hagC] at hag
          rw [hlnC] at hln
          rw [Bk.toldB, hagC] at HC
          have o0 := (unhide HR5).o0; have o1 := (unhide HR5).o1; have o2 := (unhide HR5).o2
          go_wp2_with fail
          refine (unhide HC).mono ?_
          rintro e w6 ⟨rfl, I6, u6⟩
          have HI6 := hide I6
          have HR6 := hide ((unhide HR5).upd u6)
          have HG6 := hide (agreed_yes I6 (unhide HF).ok)
          rw [hagC] at HG6
          clear I6 u6 o0 o1 o2
          go_wp2_with fail
          refine (unhide HG6).mono ?_
          rintro e w7 ⟨rfl, b7⟩
          have HL7 := hide (length_yes ((unhide HI6).below b7) (unhide HF).ok)
          have HI7 := hide ((unhide HI6).below b7)
          have HR7 := hide ((unhide HR6).below b7)
          have HG7 := hide (agreed_yes (unhide HI7) (unhide HF).ok)
          rw [hagC] at HG7
          rw [hlnC] at HL7
          clear b7
          go_wp2_with (first | (go_at_call 14; refine (unhide HL7).mono ?_; rintro e w' ⟨rfl, rfl⟩) | fail)
          refine (unhide HG7).mono ?_
          rintro e w8 ⟨rfl, b8⟩
          have HI8 := hide ((unhide HI7).below b8)
          have HR8 := hide ((unhide HR7).below b8)
          clear b8 HI7 HR7 HI6 HR6
          go_wp2
          go_loopw [103] (fun c x => AtSee w n s h g o Bk' (Bk'.toldN who (act != 3) slot) ⟨act, who, slot⟩ c x) (fun c _ => 5 - (intOf c).toNat)
          case atStart => exact ⟨0, by omega, rfl, unhide HI8, unhide HR8⟩
          case round =>
            obtain ⟨k, hk, rfl, I9, R9⟩ := hrel
            by_cases hk5 : k < 5
            · have hk0 : (0 : Int) ≤ (k : Int) := by omega
              have hk6 : (k : Int) < 5 := by omega
              have a9 : wr.drew.cell? ⟨g, k, none⟩ = some (.int .i64 (Bk'.like k)) := R9.ar k hk5
              have HA := hide (like_yes I9.drew (unhide HF).ok k)
              have HN := hide (next_yes I9.drew (unhide HF).ok k)
              have HL := hide (length_yes I9.drew (unhide HF).ok)
              have f1 := (unhide HF).like k
              have f2 := (unhide HF).ok.likes k
              have f3 := f2.2
              have f4 := f2.1
              rw [hlnC] at f3 HL
              have HX : Hid (AtSee w n s h g o Bk' (Bk'.toldN who (act != 3) slot) ⟨act, who, slot⟩ (.int .i64 ((k : Int) + 1)) wr.drew) := ⟨k + 1, by omega, by simp, I9.drew, R9.drew⟩
              clear I9 R9 f2
              generalize Bk'.like k = z0 at *
              generalize (Bk'.toldN who (act != 3) slot).like k = z1 at *
              generalize (Bk'.toldN who (act != 3) slot).next k = z2 at *
              go_wp2
              refine wp_region_held_drew (S := fun x => x.cell? ⟨g, k, none⟩ = some (.int .i64 z0)) (by kernel_rfl) a9 (fun hHeld => ?_)
              refine wpAnyH_take (i := 0) (v := ?v39x0) rfl (by kernel_rfl) (by kernel_rfl) (by kernel_rfl) (fun _ _ _ h => h) (Or.inl ⟨by rfl, ?hy39x0⟩) (by assumption) ?rest39x0
              case hy39x0 => intro w hSw; go_simp <;> with_reducible rfl
              simp only [Act.put, List.getElem_toArray, List.getElem_cons_zero, List.setIfInBounds_toArray, List.set_cons_zero, List.set_cons_succ]
              refine wpAnyH_take (i := 1) (v := ?v40x1) rfl (by kernel_rfl) (by kernel_rfl) (by kernel_rfl) (fun _ _ _ h => h) (Or.inl ⟨by rfl, ?hy40x1⟩) (by assumption) ?rest40x1
              case hy40x1 => intro w hSw; go_simp <;> with_reducible rfl
              simp only [Act.put, List.getElem_toArray, List.getElem_cons_zero, List.getElem_cons_succ, List.setIfInBounds_toArray, List.set_cons_zero, List.set_cons_succ]
              refine wpAnyH_take (i := 3) (v := ?v41x3) rfl (by kernel_rfl) (by kernel_rfl) (by kernel_rfl) (fun _ _ _ h => h) (Or.inl ⟨by rfl, ?hy41x3⟩) (by assumption) ?rest41x3
              case hy41x3 => intro w hSw; go_simp <;> with_reducible rfl
              simp only [Act.put, List.getElem_toArray, List.getElem_cons_zero, List.getElem_cons_succ, List.setIfInBounds_toArray, List.set_cons_zero, List.set_cons_succ]
              refine wpAnyH_take (i := 4) (v := ?v42x4) rfl (by kernel_rfl) (by kernel_rfl) (by kernel_rfl) (fun _ _ _ h => h) (Or.inl ⟨by rfl, ?hy42x4⟩) (by assumption) ?rest42x4
              case hy42x4 => intro w hSw; go_simp <;> with_reducible rfl
              simp only [Act.put, List.getElem_toArray, List.getElem_cons_zero, List.getElem_cons_succ, List.setIfInBounds_toArray, List.set_cons_zero, List.set_cons_succ]
              refine wpAnyH_take (i := 5) (v := ?v43x5) rfl (by kernel_rfl) (by kernel_rfl) (by kernel_rfl) (fun _ _ _ h => h) (Or.inl ⟨by rfl, ?hy43x5⟩) (by assumption) ?rest43x5
              case hy43x5 => intro w hSw; go_simp <;> with_reducible rfl
              simp only [Act.put, List.getElem_toArray, List.getElem_cons_zero, List.getElem_cons_succ, List.setIfInBounds_toArray, List.set_cons_zero, List.set_cons_succ]
              refine wpAnyH_ready (rs := [2]) (by kernel_rfl) (by simp) ?_
              refine AllReadyH.cons rfl (fun K hK => ?_) AllReadyH.nil
              go_simp
              refine (unhide HA).mono ?_
              rintro e wq ⟨rfl, rfl⟩
              refine hK _ _ a9 ?_
              clear hK hHeld
              intro hHeld
              refine wpAnyH_take (i := 6) (v := (.bool false)) rfl (by kernel_rfl) (by kernel_rfl) (by kernel_rfl) (fun _ _ _ h => h) (Or.inl ⟨by rfl, ?hy44x6⟩) (by assumption) ?rest44x6
              case hy44x6 => intro w hSw; go_simp <;> with_reducible rfl
              simp only [Act.put, List.getElem_toArray, List.getElem_cons_zero, List.getElem_cons_succ, List.setIfInBounds_toArray, List.set_cons_zero, List.set_cons_succ]
              refine wpAnyH_take (i := 7) (v := ?v45x7) rfl (by kernel_rfl) (by kernel_rfl) (by kernel_rfl) (fun _ _ _ h => h) (Or.inl ⟨by rfl, ?hy45x7⟩) (by assumption) ?rest45x7
              case hy45x7 => intro w hSw; go_simp <;> with_reducible rfl
              simp only [Act.put, List.getElem_toArray, List.getElem_cons_zero, List.getElem_cons_succ, List.setIfInBounds_toArray, List.set_cons_zero, List.set_cons_succ]
              refine wpAnyH_take (i := 8) (v := ?v46x8) rfl (by kernel_rfl) (by kernel_rfl) (by kernel_rfl) (fun _ _ _ h => h) (Or.inl ⟨by rfl, ?hy46x8⟩) (by assumption) ?rest46x8
              case hy46x8 => intro w hSw; go_simp <;> with_reducible rfl
              simp only [Act.put, List.getElem_toArray, List.getElem_cons_zero, List.getElem_cons_succ, List.setIfInBounds_toArray, List.set_cons_zero, List.set_cons_succ]
              refine wpAnyH_take (i := 9) (v := ?v47x9) rfl (by kernel_rfl) (by kernel_rfl) (by kernel_rfl) (fun _ _ _ h => h) (Or.inl ⟨by rfl, ?hy47x9⟩) (by assumption) ?rest47x9
              case hy47x9 => intro w hSw; go_simp <;> with_reducible rfl
              simp only [Act.put, List.getElem_toArray, List.getElem_cons_zero, List.getElem_cons_succ, List.setIfInBounds_toArray, List.set_cons_zero, List.set_cons_succ]
              refine wpAnyH_take (i := 11) (v := ?v48x11) rfl (by kernel_rfl) (by kernel_rfl) (by kernel_rfl) (fun _ _ _ h => h) (Or.inl ⟨by rfl, ?hy48x11⟩) (by assumption) ?rest48x11
              case hy48x11 => intro w hSw; go_simp <;> with_reducible rfl
              simp only [Act.put, List.getElem_toArray, List.getElem_cons_zero, List.getElem_cons_succ, List.setIfInBounds_toArray, List.set_cons_zero, List.set_cons_succ]
              refine wpAnyH_take (i := 12) (v := ?v49x12) rfl (by kernel_rfl) (by kernel_rfl) (by kernel_rfl) (fun _ _ _ h => h) (Or.inl ⟨by rfl, ?hy49x12⟩) (by assumption) ?rest49x12
              case hy49x12 => intro w hSw; go_simp <;> with_reducible rfl
              simp only [Act.put, List.getElem_toArray, List.getElem_cons_zero, List.getElem_cons_succ, List.setIfInBounds_toArray, List.set_cons_zero, List.set_cons_succ]
              refine wpAnyH_ready (rs := [10]) (by kernel_rfl) (by simp) ?_
              refine AllReadyH.cons rfl (fun K hK => ?_) AllReadyH.nil
              go_simp
              refine (unhide HA).mono ?_
              rintro e wq ⟨rfl, rfl⟩
              refine hK _ _ a9 ?_
              clear hK hHeld
              intro hHeld
              refine wpAnyH_ready (rs := [13]) (by kernel_rfl) (by simp) ?_
              refine AllReadyH.cons rfl (fun K hK => ?_) AllReadyH.nil
              go_simp
              refine (unhide HN).mono ?_
              rintro e wq ⟨rfl, rfl⟩
              refine hK _ _ a9 ?_
              clear hK hHeld
              intro hHeld
              refine wpAnyH_take (i := 14) (v := (.bool false)) rfl (by kernel_rfl) (by kernel_rfl) (by kernel_rfl) (fun _ _ _ h => h) (Or.inl ⟨by rfl, ?hy50x14⟩) (by assumption) ?rest50x14
              case hy50x14 => intro w hSw; go_simp <;> with_reducible rfl
              simp only [Act.put, List.getElem_toArray, List.getElem_cons_zero, List.getElem_cons_succ, List.setIfInBounds_toArray, List.set_cons_zero, List.set_cons_succ]
              refine wpAnyH_take (i := 15) (v := ?v51x15) rfl (by kernel_rfl) (by kernel_rfl) (by kernel_rfl) (fun _ _ _ h => h) (Or.inl ⟨by rfl, ?hy51x15⟩) (by assumption) ?rest51x15
              case hy51x15 => intro w hSw; go_simp <;> with_reducible rfl
              simp only [Act.put, List.getElem_toArray, List.getElem_cons_zero, List.getElem_cons_succ, List.setIfInBounds_toArray, List.set_cons_zero, List.set_cons_succ]
              refine wpAnyH_take (i := 16) (v := ?v52x16) rfl (by kernel_rfl) (by kernel_rfl) (by kernel_rfl) (fun _ _ _ h => h) (Or.inl ⟨by rfl, ?hy52x16⟩) (by assumption) ?rest52x16
              case hy52x16 => intro w hSw; go_simp <;> with_reducible rfl
              simp only [Act.put, List.getElem_toArray, List.getElem_cons_zero, List.getElem_cons_succ, List.setIfInBounds_toArray, List.set_cons_zero, List.set_cons_succ]
              refine wpAnyH_take (i := 17) (v := ?v53x17) rfl (by kernel_rfl) (by kernel_rfl) (by kernel_rfl) (fun _ _ _ h => h) (Or.inl ⟨by rfl, ?hy53x17⟩) (by assumption) ?rest53x17
              case hy53x17 => intro w hSw; go_simp <;> with_reducible rfl
              simp only [Act.put, List.getElem_toArray, List.getElem_cons_zero, List.getElem_cons_succ, List.setIfInBounds_toArray, List.set_cons_zero, List.set_cons_succ]
              refine wpAnyH_take (i := 18) (v := ?v54x18) rfl (by kernel_rfl) (by kernel_rfl) (by kernel_rfl) (fun _ _ _ h => h) (Or.inl ⟨by rfl, ?hy54x18⟩) (by assumption) ?rest54x18
              case hy54x18 => intro w hSw; go_simp <;> with_reducible rfl
              simp only [Act.put, List.getElem_toArray, List.getElem_cons_zero, List.getElem_cons_succ, List.setIfInBounds_toArray, List.set_cons_zero, List.set_cons_succ]
              refine wpAnyH_take (i := 20) (v := ?v55x20) rfl (by kernel_rfl) (by kernel_rfl) (by kernel_rfl) (fun _ _ _ h => h) (Or.inl ⟨by rfl, ?hy55x20⟩) (by assumption) ?rest55x20
              case hy55x20 => intro w hSw; go_simp <;> with_reducible rfl
              simp only [Act.put, List.getElem_toArray, List.getElem_cons_zero, List.getElem_cons_succ, List.setIfInBounds_toArray, List.set_cons_zero, List.set_cons_succ]
              refine wpAnyH_ready (rs := [19]) (by kernel_rfl) (by simp) ?_
              refine AllReadyH.cons rfl (fun K hK => ?_) AllReadyH.nil
              go_simp
              refine (unhide HN).mono ?_
              rintro e wq ⟨rfl, rfl⟩
              refine hK _ _ a9 ?_
              clear hK hHeld
              intro hHeld
              refine wpAnyH_ready (rs := [21]) (by kernel_rfl) (by simp) ?_
              refine AllReadyH.cons rfl (fun K hK => ?_) AllReadyH.nil
              go_simp
              refine (unhide HL).mono ?_
              rintro e wq ⟨rfl, rfl⟩
              refine hK _ _ a9 ?_
              clear hK hHeld
              intro hHeld
              refine wpAnyH_take (i := 22) (v := (.bool false)) rfl (by kernel_rfl) (by kernel_rfl) (by kernel_rfl) (fun _ _ _ h => h) (Or.inl ⟨by rfl, ?hy56x22⟩) (by assumption) ?rest56x22
              case hy56x22 => intro w hSw; go_simp <;> with_reducible rfl
              simp only [Act.put, List.getElem_toArray, List.getElem_cons_zero, List.getElem_cons_succ, List.setIfInBounds_toArray, List.set_cons_zero, List.set_cons_succ]
              refine wpAnyH_take (i := 23) (v := ?v57x23) rfl (by kernel_rfl) (by kernel_rfl) (by kernel_rfl) (fun _ _ _ h => h) (Or.inl ⟨by rfl, ?hy57x23⟩) (by assumption) ?rest57x23
              case hy57x23 => intro w hSw; go_simp <;> with_reducible rfl
              simp only [Act.put, List.getElem_toArray, List.getElem_cons_zero, List.getElem_cons_succ, List.setIfInBounds_toArray, List.set_cons_zero, List.set_cons_succ]
              refine wpAnyH_done (by kernel_rfl) ?_ _
              go_wp2
              go_roundw
              case rel => exact unhide HX
              case measure => simp [intOf]; omega
            · have HX : Hid (AtOp w n s m h (.int .i64 ((t' : Int) + 1)) wr) := ⟨t' + 1, _, by omega, by simp, (unhide HF).ok, (unhide HF).n.trans hn, I9, R9.lo⟩
              clear I9 R9
              go_wp2
              go_roundw
              case rel => exact unhide HX
              case measure => simp [intOf]; omega
    · have HE := hide (unhide HS wr hE).2
      clear I hE
      go_wp2
      go_ret
      exact ⟨rfl, unhide HE⟩
end Go.Proofs.Ytgehhoddmmjmjaa
