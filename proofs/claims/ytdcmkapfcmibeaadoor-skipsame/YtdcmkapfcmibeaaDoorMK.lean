/- remove: a node less. -/
import Derived.Test.YtdcmkapfcmibeaaDoorMF
namespace Go.Proofs.YtdcmkapfcmibeaaDoor
open Go.RowKit Go.Shelf
attribute [local go_sem] Oper.semAt_some
set_option maxRecDepth 100000

def remN (N : Nat → Nat → Value) (xp : Nat) (la : Nat → Nat) (i : Nat) : Nat → Nat → Value := fun p lev => if lev < i ∧ p = la lev then N xp lev else N p lev
def remL (Ll la : Nat → Nat) (xp i : Nat) : Nat → Nat := fun lev => if lev < i ∧ Ll lev = xp then la lev else Ll lev
theorem remN_step (N : Nat → Nat → Value) (xp : Nat) (la : Nat → Nat) (i : Nat) : setN (remN N xp la i) (la i) i (N xp i) = remN N xp la (i + 1) := by
  funext p lev
  unfold setN remN
  by_cases c : lev = i
  · subst c
    by_cases d : p = la lev
    · subst d; simp
    · simp [d]
  · have c1 : (lev < i + 1) ↔ lev < i := by omega
    simp [c, c1]
theorem remL_yes (Ll la : Nat → Nat) (xp i : Nat) (h : Ll i = xp) : setF (remL Ll la xp i) i (la i) = remL Ll la xp (i + 1) := by
  funext lev
  unfold setF remL
  by_cases c : lev = i
  · subst c; simp [h]
  · have c1 : (lev < i + 1) ↔ lev < i := by omega
    simp [c, c1]
theorem remL_no (Ll la : Nat → Nat) (xp i : Nat) (h : Ll i ≠ xp) : remL Ll la xp i = remL Ll la xp (i + 1) := by
  funext lev
  unfold remL
  by_cases c : lev = i
  · subst c; simp [h]
  · have c1 : (lev < i + 1) ↔ lev < i := by omega
    simp [c1]
theorem remL_end {hd : Nat} {A B : List Nd} {x : Nd} (ha : Apart hd (A ++ x :: B)) (lev : Nat) : remL (fun lev => lstP hd lev (A ++ x :: B)) (fun lev => lstP hd lev A) x.p x.h lev = lstP hd lev (A ++ B) := by
  unfold remL
  simp only [lstP_append, lstP]
  have hxB : Apart x.p B := (ha.rest (lev := lev)).tail
  by_cases c : lev < x.h
  · rw [if_pos c]
    by_cases d : lstP x.p lev B = x.p
    · rw [if_pos ⟨c, d⟩]
      have hlow : ∀ n ∈ B, n.h ≤ lev := by
        intro n hn
        by_cases e : n.h ≤ lev
        · exact e
        · exfalso
          obtain ⟨B1, B2, rfl⟩ := List.append_of_mem hn
          rw [lstP_append, lstP, if_pos (by omega)] at d
          rcases lstP_mem n.p lev B2 with e2 | ⟨m, hm, e2, _⟩
          · exact hxB.ne (n := n) (by simp) (e2.symm.trans d)
          · exact hxB.ne (n := m) (by simp [hm]) (e2.trans d)
      rw [lstP_low hlow]
    · rw [if_neg fun e => d e.2]
      exact (lstP_free d hxB).symm
  · rw [if_neg c, if_neg fun e => c e.1]
theorem Apart.remove {hd : Nat} {A B : List Nd} {x : Nd} (ha : Apart hd (A ++ x :: B)) : Apart hd (A ++ B) := by
  unfold Apart at *
  refine List.Nodup.sublist ?_ ha
  exact List.Sublist.cons_cons _ ((List.Sublist.append_left (List.sublist_cons_self x B) A).map _)
structure Rem (w : World) (sb hd n0 : Nat) (L : List Nd) (x : Nd) (N : Nat → Nat → Value) (la : Nat → Nat) (luck : Int) (i : Nat) (wr : World) : Prop where
  box : wr.heap[n0]? = some (.cells (arr8 fun lev => PN (la lev)) 73)
  mem : SkM wr sb hd L (remN N x.p la i) (remL (fun lev => lstP hd lev L) la x.p i) L.length luck
  upd : Upd (Bl sb hd L) n0 w wr

set_option maxHeartbeats 1000000 in
theorem remove_any {w : World} {b0 sb hd : Nat} {A B : List Nd} {x : Nd} {luck : Int} (h : Sk w b0 sb hd (A ++ x :: B) luck) :
    Calls Tryd.prog 58 #[PN sb, .agg #[PN (lstP hd 0 A), PN (lstP hd 1 A), PN (lstP hd 2 A), PN (lstP hd 3 A), PN (lstP hd 4 A), PN (lstP hd 5 A), PN (lstP hd 6 A), PN (lstP hd 7 A)], PN x.p] w fun e w' => e = .returned (.tuple #[]) ∧ Sk w' b0 sb hd (A ++ B) luck ∧ Upd (Bl sb hd (A ++ x :: B)) w.heap.size w w' := by
  obtain ⟨N, hm, hlk⟩ := h.mem
  have hxL : x ∈ A ++ x :: B := by simp
  obtain ⟨L, hL⟩ : ∃ L, A ++ x :: B = L := ⟨_, rfl⟩
  have hAp := h.apart
  rw [hL] at h hm hlk hAp hxL ⊢
  have hok := h.ok x hxL
  obtain ⟨n0, hn0⟩ : ∃ n0, w.heap.size = n0 := ⟨_, rfl⟩
  obtain ⟨W1, hW1⟩ : ∃ W1, w.alloc (.cells #[PN (lstP hd 0 A), PN (lstP hd 1 A), PN (lstP hd 2 A), PN (lstP hd 3 A), PN (lstP hd 4 A), PN (lstP hd 5 A), PN (lstP hd 6 A), PN (lstP hd 7 A)] 73) = W1 := ⟨_, rfl⟩
  have hb1 : Below n0 w W1 := by rw [← hW1, ← hn0]; exact (Below.refl _ _).alloc (Nat.le_refl _) _
  have hlt : ∀ {k}, Bl sb hd L k → k < n0 := fun hk => by rw [← hn0]; exact h.lt hk
  have I0 : Rem w sb hd n0 L x N (fun lev => lstP hd lev A) luck 0 W1 := by
    have hm1 := hm.keep (w' := W1) fun k hk => hb1.block k (hlt hk)
    refine ⟨?_, ?_, Upd.of hb1⟩
    · rw [← hW1, ← hn0]; exact heap_new1 _ _
    · have e1 : remL (fun lev => lstP hd lev L) (fun lev => lstP hd lev A) x.p 0 = fun lev => lstP hd lev L := by funext lev; simp [remL]
      have e2 : remN N x.p (fun lev => lstP hd lev A) 0 = N := by funext p lev; simp [remN]
      rw [e1, e2]; exact hm1
  have hx4 : W1.cell? ⟨x.p, 4, none⟩ = some (.int .i64 x.h) := cell_at (I0.mem.node x hxL)
  have hh := hok.h
  have HI := hide I0
  have HX := hide (And.intro h (And.intro hlk (And.intro hL hxL)))
  rw [hn0]
  clear h hlk hL I0 hm hb1 hlt hok
  have HAP := hide hAp
  clear hAp hxL
  go_enter Tryd.func58, Tryd.ntmps58
  go_wp2
  clear hW1 hx4
  go_loopw [11] (fun t wr => ∃ i : Nat, i ≤ x.h ∧ t = .int .i64 i ∧ Rem w sb hd n0 L x N (fun lev => lstP hd lev A) luck i wr) (fun t _ => x.h - (intOf t).toNat)
  case atStart => exact ⟨0, Nat.zero_le _, rfl, unhide HI⟩
  case round =>
    clear HI
    obtain ⟨i, hi, rfl, hI⟩ := hrel
    by_cases hlt : i < x.h
    · have hdb : decide ((i : Int) < x.h) = true := by simp; omega
      have hi0 : (0 : Int) ≤ (i : Int) := by omega
      have hi8 : (i : Int) < 8 := by omega
      have hn8 : i < 8 := by omega
      obtain ⟨hSk, hlk, hL, hxL⟩ := unhide HX
      have hAp := unhide HAP
      obtain ⟨q, hq⟩ : ∃ q, lstP hd i A = q := ⟨_, rfl⟩
      have hqon : On hd L q := by rw [← hq, ← hL]; exact lstP_on _ _
      have hxon : On hd L x.p := .inr ⟨x, hxL, rfl⟩
      have hv : ∃ v, N x.p i = .pointer v := by
        have h0 := hlk i hn8
        rw [← hL] at h0
        have h1 := h0.rest
        rw [Lk, if_pos hlt] at h1
        rw [h1.2.first]; exact fstP_ptr _ _
      have hmem := hI.mem
      have hbox := hI.box
      have hupd := hI.upd
      have a0 : wr.cell? ⟨n0, i, none⟩ = some (PN q) := by rw [cell_at hbox, arr8_get _ hn8, hq]
      have e2 : remN N x.p (fun lev => lstP hd lev A) i x.p i = N x.p i := by simp [remN]
      have x0 := hmem.next hxon hn8
      rw [e2] at x0
      have q0 := hmem.next hqon hn8
      obtain ⟨u0, q0⟩ : ∃ u, wr.cell? ⟨q, 5 + i, none⟩ = some u := ⟨_, q0⟩
      have qf : wr.frozen? ⟨q, 5 + i, none⟩ = false := hmem.frozenN hqon
      have m1 := hmem.setNext hAp hqon hn8 (N x.p i)
      have hst := remN_step N x.p (fun lev => lstP hd lev A) i
      simp only [hq] at hst
      rw [hst] at m1
      obtain ⟨v, hv0⟩ := hv
      rw [hv0] at x0 m1
      obtain ⟨Y1, hY1⟩ : ∃ Y, (wr.setCell ⟨q, 5 + i, none⟩ (.pointer v)).drew = Y := ⟨_, rfl⟩
      have n1 := m1.keep (w' := Y1) (fun _ _ => by rw [← hY1]; rfl)
      have hne0 : ∀ {r}, On hd L r → r ≠ n0 := fun {r} hr e => by
        obtain ⟨n, _, h1⟩ := hmem.on hr
        rw [e, hbox] at h1
        simp at h1
      have hsb0 : sb ≠ n0 := fun e => by have := hmem.sk; rw [e, hbox] at this; simp at this
      have b1 : Y1.heap[n0]? = some (.cells (arr8 fun lev => PN (lstP hd lev A)) 73) := by
        rw [← hY1]; exact (Below.heap_setCell _ _ _ _ (hne0 hqon).symm).trans hbox
      have a1 : Y1.cell? ⟨n0, i, none⟩ = some (PN q) := by rw [cell_at b1, arr8_get _ hn8, hq]
      have l1 := n1.last hn8
      have eL : remL (fun lev => lstP hd lev L) (fun lev => lstP hd lev A) x.p i i = lstP hd i L := by simp [remL]
      rw [eL] at l1
      have lf : Y1.frozen? ⟨sb, 1 + i, none⟩ = false := n1.frozenS
      have hup1 : Upd (Bl sb hd L) n0 w Y1 := by
        have hq' : Bl sb hd L q := .inr (by rcases hqon with e | e; exact .inl e; exact .inr e)
        rw [← hY1]
        exact (hupd.setCell (p := ⟨q, 5 + i, none⟩) (.inl hq') _).drew
      obtain ⟨r, hr⟩ : ∃ r, lstP hd i L = r := ⟨_, rfl⟩
      rw [hr] at l1
      obtain ⟨i1, hi1⟩ : ∃ i1, i + 1 = i1 := ⟨_, rfl⟩
      have hwi : IntKind.i64.wrap ((i : Int) + 1) = (i1 : Int) := by rw [wrap_i64 _ (by omega) (by omega)]; omega
      have hm1 : x.h - i1 < x.h - i := by omega
      have hle1 : i1 ≤ x.h := by omega
      rw [hi1] at n1
      have hron : On hd L r := by
        rcases lstP_mem hd i L with e | ⟨n, hn, e, _⟩
        · exact .inl (hr.symm.trans e)
        · exact .inr ⟨n, hn, e.trans hr⟩
      obtain ⟨_, _, hr85⟩ := n1.on hron
      obtain ⟨_, _, hx85⟩ := n1.on hxon
      have HN1 := hide (And.intro n1 (And.intro b1 hup1))
      have HQ := hide (And.intro hq (And.intro hr (And.intro hi1 (And.intro hsb0 (And.intro hr85 hx85)))))
      have HY1 := hide hY1
      clear hI hmem hbox hSk hlk hL hAp e2 hst m1 n1 hY1 b1 hup1 eL hne0 hsb0 hqon hxon hv0 hq hr hi1 hlt hi hxL hupd hron hr85 hx85
      go_wp2
      go_region
      rw [unhide HY1]
      clear x0 q0 qf a0
      by_cases hrx : r = x.p
      · subst hrx
        have hE := eqP_same x.p Y1
        go_wp2
        go_region
        go_wp2
        go_roundw
        case rel =>
          obtain ⟨n1, b1, hup1⟩ := unhide HN1
          obtain ⟨hq, hr, hi1, hsb0, _, _⟩ := unhide HQ
          refine ⟨i1, hle1, rfl, ?_, ?_, ?_⟩
          · exact (Below.heap_setCell _ _ _ _ hsb0.symm).trans b1
          · have n3 := n1.setLast hn8 q
            have hst := remL_yes (fun lev => lstP hd lev L) (fun lev => lstP hd lev A) x.p i hr
            simp only [hq] at hst
            rw [hst, hi1] at n3
            exact n3.keep fun _ _ => rfl
          · exact (hup1.setCell (p := ⟨sb, 1 + i, none⟩) (.inl (.inl rfl)) _).drew
        case measure => simpa [intOf] using hm1
      · have hE : (binOp .eql 71 (PN r) (PN x.p)).run Tryd.prog Y1 = .ok (.bool false) Y1 := by
          obtain ⟨_, _, _, _, h1, h2⟩ := unhide HQ
          exact eqP_other hrx h1 h2
        go_wp2
        go_roundw
        case rel =>
          obtain ⟨n1, b1, hup1⟩ := unhide HN1
          obtain ⟨hq, hr, hi1, hsb0, _, _⟩ := unhide HQ
          refine ⟨i1, hle1, rfl, b1, ?_, hup1⟩
          have hst := remL_no (fun lev => lstP hd lev L) (fun lev => lstP hd lev A) x.p i (by rw [hr]; exact hrx)
          rw [hst, hi1] at n1
          exact n1
        case measure => simpa [intOf] using hm1
    · obtain rfl : i = x.h := by omega
      have hmem := hI.mem
      have m9 : wr.cell? ⟨sb, 9, none⟩ = some (.int .i64 (L.length : Int)) := cell_at hmem.sk
      have m9f : wr.frozen? ⟨sb, 9, none⟩ = false := hmem.frozenS
      obtain ⟨hSk, hlk, hL, hxL⟩ := unhide HX
      have hAp := unhide HAP
      have hlen := hSk.most
      obtain ⟨c, hc⟩ : ∃ c : Int, (L.length : Int) = c := ⟨_, rfl⟩
      obtain ⟨c1, hc1⟩ : ∃ c1 : Int, c - 1 = c1 := ⟨_, rfl⟩
      have hwc : IntKind.i64.wrap (c - 1) = c1 := by rw [wrap_i64 _ (by omega) (by omega)]; exact hc1
      rw [hc] at m9
      have hsub : ∀ n ∈ A ++ B, n ∈ L := fun n hn => by
        rw [← hL]
        rcases List.mem_append.1 hn with h1 | h1
        · exact List.mem_append_left _ h1
        · exact List.mem_append_right _ (List.mem_cons_of_mem _ h1)
      have hfin : Sk (wr.setCell ⟨sb, 9, none⟩ (.int .i64 c1)) b0 sb hd (A ++ B) luck := by
        have hm1 := hmem.setMany c1
        refine ⟨⟨remN N x.p (fun lev => lstP hd lev A) x.h, ?_, fun lev hlev => ?_⟩, ?_, ?_, fun n hn => hSk.ok n (hsub n hn), ?_, ?_, hSk.lk⟩
        · have e1 : (fun lev => lstP hd lev (A ++ B)) = remL (fun lev => lstP hd lev L) (fun lev => lstP hd lev A) x.p x.h := by
            funext lev
            rw [← hL] at hAp ⊢
            exact (remL_end hAp lev).symm
          have e2 : ((A ++ B).length : Int) = c1 := by rw [← hc1, ← hc, ← hL]; simp; omega
          rw [e1, e2]
          exact ⟨hm1.sk, hm1.head, fun n hn => hm1.node n (hsub n hn)⟩
        · have h0 := hlk lev hlev
          rw [← hL] at h0 hAp
          refine h0.remove hAp (fun c' => ?_) (fun y hy => ?_)
          · simp [remN, c']
          · by_cases c' : lev < x.h
            · simp [remN, hy c']
            · simp [remN, c']
        · have hr := hSk.rise
          rw [← hL] at hr
          exact hr.sublist (List.Sublist.append_left (List.sublist_cons_self x B) A)
        · rw [← hL] at hAp
          exact hAp.remove
        · rw [← hL] at hlen
          simp only [List.length_append, List.length_cons] at hlen ⊢
          omega
        · rintro k (rfl | rfl | ⟨n, hn, rfl⟩)
          · exact hSk.from_ _ (.inl rfl)
          · exact hSk.from_ _ (.inr (.inl rfl))
          · exact hSk.from_ _ (.inr (.inr ⟨n, hsub n hn, rfl⟩))
      have hupd : Upd (Bl sb hd L) n0 w (wr.setCell ⟨sb, 9, none⟩ (.int .i64 c1)) := hI.upd.setCell (p := ⟨sb, 9, none⟩) (.inl (.inl rfl)) _
      have HFI := hide (And.intro hfin hupd)
      clear hfin hupd hmem hI hSk hlk hL hxL hAp hlen hc hc1 hi hlt hsub HX HAP
      go_wp2
      go_end0
      exact ⟨rfl, (unhide HFI).1, (unhide HFI).2⟩
end Go.Proofs.YtdcmkapfcmibeaaDoor
