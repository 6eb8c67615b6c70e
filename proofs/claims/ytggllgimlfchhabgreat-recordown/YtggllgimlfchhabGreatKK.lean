/- Several texts as one. -/
import Derived.Test.YtggllgimlfchhabGreatKW
import Derived.Test.YtggllgimlfchhabGreatKR
import Derived.Test.YtggllgimlfchhabGreatKA

/- take of the reader's sealed bytes. -/
namespace Go.Proofs.YtggllgimlfchhabGreat
open Go.RowKit
set_option maxRecDepth 100000

set_option maxHeartbeats 400000 in
theorem take37_44_no (ao : Option Addr) (len cap : Nat) (er : Int) (w : World)
    (hpart : Calls Tryz.prog 75 #[.pointer (some ⟨w.heap.size + 1, 0, none⟩)] (tw w (.slice ao len cap)) fun e w' => e = GiveUp er ∧ Below (w.heap.size + 1) (tw w (.slice ao len cap)) w') :
    Calls Tryz.prog 74 #[.slice ao len cap, .func (Fn.func 75) #[] #[]] w fun e w' => e = .returned (.tuple #[.slice none 0 0, .int .i64 0, .int .i64 er]) ∧ Below w.heap.size w w' := by
  have hmf : ∀ (fn : Fn) (first cap : Array Value) (w : World), (Instr.makeFunc fn first cap).run Tryz.prog w = .ok (.func fn first cap) w := fun _ _ _ _ => rfl
  have HP := hide hpart
  clear hpart
  go_enter_defers Tryz.func74, Tryz.ntmps74
  go_wp2_with fail
  refine (unhide HP).mono ?_
  rintro e w1 ⟨rfl, hb1⟩
  have hbw : Below w.heap.size w w1 := (tw_below w _).trans (hb1.mono (by omega))
  have hce : w1.heap[w.heap.size]? = some (.cells #[.int .i64 0] 32 (0, 0)) := (hb1.block _ (by omega)).trans (tw_err w _)
  have hsz := lt_of_block hce
  refine leaves_cons (f := 110) (args := #[.pointer (some ⟨w.heap.size, 0, none⟩)]) (by simp) (by simp [go_sem]) ?_
  refine (catch_giveup50 w.heap.size 0 er _ (cell_of_one hce) (free_of_one hce) hsz).mono ?_
  rintro e u' w'' ⟨rfl, rfl, rfl⟩
  have hcell : ((w1.setCell ⟨w.heap.size, 0, none⟩ (.int .i64 er)).alloc (.cells #[.int .i64 er] 151)).cell? ⟨w.heap.size, 0, none⟩ = some (.int .i64 er) :=
    cell_of_one (t := 32) (by rw [Below.heap_alloc _ _ _ (by simpa [World.setCell] using hsz)]; exact one_setCell hce)
  simp [Leaves, settle, results, Tryz.results74, go_sem, hcell]
  exact (hbw.setCell (p := ⟨w.heap.size, 0, none⟩) (Nat.le_refl _) _).alloc (by simp [World.setCell]; omega) _

set_option maxHeartbeats 400000 in
theorem take37_44_ok (ao : Option Addr) (len cap : Nat) (k : Nat) (w : World) (Φ : Value → World → Prop)
    (h1 : ∀ x w j, Φ x w → Φ x (w.drewN j)) (h2 : ∀ x w' u, Φ x w' → Φ x (w'.setCell ⟨w.heap.size, 0, none⟩ u)) (h3 : ∀ x w o, Φ x w → Φ x (w.alloc o))
    (hpart : Calls Tryz.prog 75 #[.pointer (some ⟨w.heap.size + 1, 0, none⟩)] (tw w (.slice ao len cap)) fun e w' => ∃ x, e = .returned x ∧ AtR w' (w.heap.size + 1) (.slice ao len cap) k ∧ Below (w.heap.size + 1) (tw w (.slice ao len cap)) w' ∧ Φ x w') :
    Calls Tryz.prog 74 #[.slice ao len cap, .func (Fn.func 75) #[] #[]] w fun e w' => ∃ x, e = .returned (.tuple #[x, .int .i64 k, .int .i64 0]) ∧ Below w.heap.size w w' ∧ Φ x w' := by
  have hmf : ∀ (fn : Fn) (first cap : Array Value) (w : World), (Instr.makeFunc fn first cap).run Tryz.prog w = .ok (.func fn first cap) w := fun _ _ _ _ => rfl
  have HP := hide hpart
  have H1 := hide h1
  have H2 := hide h2
  have H3 := hide h3
  clear hpart h1 h2 h3
  go_enter_defers Tryz.func74, Tryz.ntmps74
  go_wp2_with fail
  refine (unhide HP).mono ?_
  clear HP
  rintro e w1 ⟨x, rfl, hat, hb1, hΦ⟩
  have HΦ := hide hΦ
  clear hΦ
  have hbw : Below w.heap.size w w1 := (tw_below w _).trans (hb1.mono (by omega))
  have hce : w1.heap[w.heap.size]? = some (.cells #[.int .i64 0] 32 (0, 0)) := (hb1.block _ (by omega)).trans (tw_err w _)
  have hsz := lt_of_block hce
  have c1 := cell_of_one hce
  have c2 := free_of_one hce
  have c3 := hat.c1
  have HC := hide hce
  have HT := hide hat
  clear hce hat
  go_wp2
  go_region
  go_wp2
  refine leaves_cons (f := 110) (args := #[.pointer (some ⟨w.heap.size, 0, none⟩)]) (by simp) (by simp [go_sem]) ?_
  refine (catch_idle50 w.heap.size _).mono ?_
  rintro e u' w'' ⟨rfl, rfl, rfl⟩
  have hcell : ((w1.setCell ⟨w.heap.size, 0, none⟩ (.int .i64 0)).drew.alloc (.cells #[.int .i64 0] 151)).cell? ⟨w.heap.size, 0, none⟩ = some (.int .i64 0) :=
    cell_of_one (t := 32) (by rw [Below.heap_alloc _ _ _ (by simpa [World.setCell] using hsz)]; exact one_setCell HC.out)
  have hbf : Below w.heap.size w ((w1.setCell ⟨w.heap.size, 0, none⟩ (.int .i64 0)).drew.alloc (.cells #[.int .i64 0] 151)) :=
    (hbw.setCell (p := ⟨w.heap.size, 0, none⟩) (Nat.le_refl _) _).drew.alloc (by simp [World.setCell]; omega) _
  have hΦ2 : Φ x ((w1.setCell ⟨w.heap.size, 0, none⟩ (.int .i64 0)).drew.alloc (.cells #[.int .i64 0] 151)) :=
    H3.out _ _ _ (H1.out _ _ 1 (H2.out _ _ _ HΦ.out))
  clear H1 H2 H3 HΦ hmf
  generalize (w1.setCell ⟨w.heap.size, 0, none⟩ (.int .i64 0)).drew.alloc (.cells #[.int .i64 0] 151) = wf at *
  simp [Leaves, settle, results, Tryz.results74, go_sem, hcell]
  exact ⟨hbf, hΦ2⟩

end Go.Proofs.YtggllgimlfchhabGreat

/- Contract of Unseal. -/
namespace Go.Proofs.YtggllgimlfchhabGreat
open Go.RowKit
set_option maxRecDepth 100000

theorem sealR_any (R : Nat) (v : Value) (zs : List Int) (p : Nat) (w : World) (hat : AtR w R v p) (hs : SeesB R w .u8 v zs) (hby : Byt zs) (hm : zs.length ≤ 140737488355328) (hp : p ≤ zs.length) :
    Calls Tryz.prog 75 #[.pointer (some ⟨R, 0, none⟩)] w fun e w' => ReadsB R v p w.heap.size w (tu (zs.drop p)) e w' := by
  have hnum := number_any R v zs p w hat hs hby hm hp
  have hR := lt_of_block hat
  have hle := tn_le (zs.drop p)
  have hlen : (zs.drop p).length = zs.length - p := List.length_drop
  rw [hlen] at hle
  have hdd : ∀ q, (zs.drop p).drop q = zs.drop (p + q) := fun q => List.drop_drop
  unfold tu
  simp only [hlen, hdd]
  clear hdd hlen
  generalize tn (zs.drop p) = t at *
  obtain ⟨n, k, er⟩ := t
  simp only at *
  by_cases he : er ≠ 0
  · rw [if_pos he]
    refine (sealR_num R er w (hide (hnum.mono fun e w' h => ⟨h.2.2 he, h.1⟩))).mono ?_
    rintro e w' ⟨rfl, hb⟩
    exact ⟨hb, fun h0 => absurd h0 he, fun _ => rfl⟩
  have he0 : er = 0 := by simpa using he
  subst he0
  rw [if_neg he]
  have hle' := hle rfl
  by_cases hn : n < 0
  · rw [if_pos hn]
    refine (sealR_neg R n w hn (hide (hnum.mono fun e w' h => ⟨(h.2.1 rfl).1, h.1⟩))).mono ?_
    rintro e w' ⟨rfl, hb⟩
    exact ⟨hb, fun h0 => absurd h0 (by decide), fun _ => rfl⟩
  rw [if_neg hn]
  by_cases hl : 1048576 < n
  · rw [if_pos hl]
    refine (sealR_long R n w hl (hide (hnum.mono fun e w' h => ⟨(h.2.1 rfl).1, h.1⟩))).mono ?_
    rintro e w' ⟨rfl, hb⟩
    exact ⟨hb, fun h0 => absurd h0 (by decide), fun _ => rfl⟩
  rw [if_neg hl]
  by_cases hsh : ((zs.length - p : Nat) : Int) - k < n + 8
  · rw [if_pos hsh]
    by_cases hs1 : (zs.length : Int) - ((p + k : Nat) : Int) < n
    · refine (sealR_short1 R v zs (p + k) n w hs hm (by omega) (by omega) (by omega) hs1 (hide (hnum.mono fun e w' h => ⟨(h.2.1 rfl).1, h.1, (h.2.1 rfl).2.1⟩))).mono ?_
      rintro e w' ⟨rfl, hb⟩
      exact ⟨hb, fun h0 => absurd h0 (by decide), fun _ => rfl⟩
    · refine (sealR_short2 R v zs (p + k) n.toNat n w (by omega) hs hm (by omega) (by omega) (by omega) (hide (hnum.mono fun e w' h => ⟨(h.2.1 rfl).1, h.1, (h.2.1 rfl).2.1⟩))).mono ?_
      rintro e w' ⟨rfl, hb⟩
      exact ⟨hb, fun h0 => absurd h0 (by decide), fun _ => rfl⟩
  rw [if_neg hsh]
  rw [← Nat.add_assoc p k n.toNat]
  by_cases hb : valL ((zs.drop (p + k + n.toNat)).take 8) ≠ chkF c0 ((zs.drop (p + k)).take n.toNat)
  · rw [if_pos hb]
    refine (sealR_bad R v zs (p + k) n.toNat n w (by omega) hs hby hm (by omega) (by omega) hR hb (hide (hnum.mono fun e w' h => ⟨(h.2.1 rfl).1, h.1, (h.2.1 rfl).2.1⟩))).mono ?_
    rintro e w' ⟨rfl, hb⟩
    exact ⟨hb, fun h0 => absurd h0 (by decide), fun _ => rfl⟩
  rw [if_neg hb]
  refine (sealR_ok R v zs (p + k) n.toNat n w (by omega) hs hby hm (by omega) (by omega) hR (by simpa using hb) (hide (hnum.mono fun e w' h => ⟨(h.2.1 rfl).1, h.1, (h.2.1 rfl).2.1, (h.2.1 rfl).2.2⟩))).mono ?_
  rintro e w' ⟨x, rfl, hat', hbb, ho⟩
  refine ⟨hbb, fun _ => ⟨x, rfl, by rw [show p + (k + n.toNat + 8) = p + k + n.toNat + 8 by omega]; exact hat', ?_⟩, fun h => absurd rfl h⟩
  have hl : ((zs.drop (p + k)).take n.toNat).length = n.toNat := by simp; omega
  rw [hl]; exact ho

theorem tu_no (l : List Int) (h : (tu l).2.2 ≠ 0) : (tu l).1 = [] ∧ (tu l).2.1 = 0 := by
  unfold tu at h ⊢
  by_cases c1 : (tn l).2.2 ≠ 0
  · rw [if_pos c1]; exact ⟨rfl, rfl⟩
  rw [if_neg c1] at h ⊢
  by_cases c2 : (tn l).1 < 0
  · rw [if_pos c2]; exact ⟨rfl, rfl⟩
  rw [if_neg c2] at h ⊢
  by_cases c3 : 1048576 < (tn l).1
  · rw [if_pos c3]; exact ⟨rfl, rfl⟩
  rw [if_neg c3] at h ⊢
  by_cases c4 : (l.length : Int) - (tn l).2.1 < (tn l).1 + 8
  · rw [if_pos c4]; exact ⟨rfl, rfl⟩
  rw [if_neg c4] at h ⊢
  by_cases c5 : valL ((l.drop ((tn l).2.1 + (tn l).1.toNat)).take 8) ≠ chkF c0 ((l.drop (tn l).2.1).take (tn l).1.toNat)
  · rw [if_pos c5]; exact ⟨rfl, rfl⟩
  rw [if_neg c5] at h
  exact absurd rfl h

set_option maxHeartbeats 400000 in
/-- Unseal. -/
theorem unseal_any (bv : Value) (zs : List Int) (w : World) (hs : Sees w .u8 bv zs) (hby : Byt zs) (hm : zs.length ≤ 140737488355328) :
    Calls Tryz.prog 36 #[bv] w fun e w' => ∃ x, e = .returned (.tuple #[x, .int .i64 (tu zs).2.1, .int .i64 (tu zs).2.2]) ∧ w'.ownsRow w.heap.size 5 1 x (tu zs).1.length (ints .u8 (tu zs).1) ∧ Below w.heap.size w w' := by
  have hst := tw_sees hs
  have hnum := sealR_any (w.heap.size + 1) bv zs 0 (tw w bv) (tw_at w bv) hst hby hm (Nat.zero_le _)
  rw [List.drop_zero, tw_size] at hnum
  obtain ⟨ao, cap, rfl, hlc, hnil, hc⟩ := hs
  have key : Calls Tryz.prog 74 #[.slice ao zs.length cap, .func (Fn.func 75) #[] #[]] w fun e w' => ∃ x, e = .returned (.tuple #[x, .int .i64 (tu zs).2.1, .int .i64 (tu zs).2.2]) ∧ w'.ownsRow w.heap.size 5 1 x (tu zs).1.length (ints .u8 (tu zs).1) ∧ Below w.heap.size w w' := by
    by_cases he : (tu zs).2.2 = 0
    · refine (take37_44_ok ao zs.length cap (tu zs).2.1 w (fun x w' => w'.ownsRow (w.heap.size + 2) 5 1 x (tu zs).1.length (ints .u8 (tu zs).1)) (fun _ _ _ h => h) (fun _ _ _ h => ownsRow_setCell_below h (by show w.heap.size < _; omega) _) (fun _ _ _ h => h.alloc _) (hnum.mono ?_)).mono ?_
      · rintro e w' ⟨h1, h2, _⟩
        obtain ⟨x, h3, h4, h5⟩ := h2 he
        rw [Nat.zero_add] at h4
        exact ⟨x, h3, h4, h1, h5⟩
      · rintro e w' ⟨x, rfl, hb, ho⟩
        exact ⟨x, by rw [he], own_mono ho (by omega), hb⟩
    · refine (take37_44_no ao zs.length cap (tu zs).2.2 w (hnum.mono ?_)).mono ?_
      · rintro e w' ⟨h1, _, h3⟩
        exact ⟨h3 he, h1⟩
      · rintro e w' ⟨rfl, hb⟩
        obtain ⟨e1, e2⟩ := tu_no zs he
        rw [e1, e2]
        exact ⟨_, rfl, World.ownsRow_nil _ _ _ _, hb⟩
  have HK := hide key
  clear key hst hnum hc
  go_enter Tryz.func36, Tryz.ntmps36
  go_wp2_with (go_at_call 74; refine (unhide HK).mono ?_; rintro e w1 ⟨x, rfl, ho, hb⟩)
  go_ret3
  exact ⟨x, rfl, ho, hb⟩

end Go.Proofs.YtggllgimlfchhabGreat

/- Record: Unmarshal. -/
namespace Go.Proofs.YtggllgimlfchhabGreat
open Go.RowKit
set_option maxRecDepth 100000

theorem own_setRow {w : World} {base e size M : Nat} {v : Value} {n : Nat} {xs : List Value} {old : Array Value} (h : w.ownsRow base e size v n xs) (hM : w.heap[M]? = some (.cells old 30)) (he : e ≠ 30) (cs : Array Value) : (w.setRow M cs).ownsRow base e size v n xs := by
  refine ⟨h.1, ?_⟩
  rcases h.2 with hn | ⟨g, cap, cur, hv, hg, hh, r⟩
  · exact .inl hn
  · refine .inr ⟨g, cap, cur, hv, hg, (setRow_other _ _ _ _ (fun e => ?_)).trans hh, r⟩
    subst e
    rw [hM] at hh
    simp only [Option.some.injEq, Obj.cells.injEq] at hh
    exact he hh.2.1.symm
theorem ownM_setRow {w : World} {base M : Nat} {cs' : Array Value} {m : MsgD} {old : Array Value} (h : OwnM base w cs' m) (hM : w.heap[M]? = some (.cells old 30)) (cs : Array Value) : OwnM base (w.setRow M cs) cs' m := by
  obtain ⟨lv, tv, dv, h0, ⟨vs, a1, a2, a3⟩, ⟨us, b1, b2, b3⟩, h3⟩ := h
  have hT : ∀ {x : Value} {l : List TxnD}, OwnTs base w x l → OwnTs base (w.setRow M cs) x l := fun {x l} ⟨us, b1, b2, b3⟩ => ⟨us, b1, own_setRow b2 hM (by decide) cs, fun p hp => by
    obtain ⟨cv, av, rv, wv, q0, q1, q2, q3, q4⟩ := b3 p hp
    exact ⟨cv, av, rv, wv, q0, own_setRow q1 hM (by decide) cs, own_setRow q2 hM (by decide) cs, own_setRow q3 hM (by decide) cs, own_setRow q4 hM (by decide) cs⟩⟩
  exact ⟨lv, tv, dv, h0, ⟨vs, a1, own_setRow a2 hM (by decide) cs, fun p hp => hT (a3 p hp)⟩, hT ⟨us, b1, b2, b3⟩, own_setRow h3 hM (by decide) cs⟩
def dG : MsgD := ⟨0, 0, 0, 0, 0, 0, 0, false, [], ⟨0, 0, 0, []⟩, ⟨0, 0, 0, []⟩⟩
/-- What a reader's end makes of a message. -/
def finM (p : MsgD × RS) : MsgD × Int := if p.2.fin.fault (mayMsg p.1) = 0 then (p.1, 0) else (dG, p.2.fin.fault (mayMsg p.1))
/-- What bytes say as a message. -/
def unm (zs : List Int) : MsgD × Int := if (tu zs).2.2 ≠ 0 then (dG, (tu zs).2.2) else if (tu zs).2.1 < zs.length then (dG, 13) else finM (RS.mk (tu zs).1 0 false).msg
theorem ownM_zero (base : Nat) (w : World) : OwnM base w #[.int .i64 0, .int .i64 0, .int .i64 0, .int .i64 0, .int .i64 0, .int .i64 0, .int .i64 0, .bool false, .slice none 0 0, .int .i64 0, .int .i64 0, .int .i64 0, .slice none 0 0, .int .i64 0, .int .i64 0, .int .i64 0, .slice none 0 0] dG := ⟨_, _, _, rfl, OwnTms.nil _ _, OwnTs.nil _ _, World.ownsRow_nil _ _ _ _⟩

set_option maxHeartbeats 1600000 in
theorem Unmarshal_any (bv : Value) (zs : List Int) (w : World) (hs : Sees w .u8 bv zs) (hby : Byt zs) (hm : zs.length ≤ 140737488355328) :
    Calls Tryz.prog 12 #[bv] w fun e w' => ∃ cs, e = .returned (.tuple #[.agg cs, .int .i64 (unm zs).2]) ∧ OwnM w.heap.size w' cs (unm zs).1 ∧ Below w.heap.size w w' := by
  have hsm := tu_small zs
  have hbt := tu_byt hby
  obtain ⟨d, sz, er, htu⟩ : ∃ d sz er, tu zs = (d, sz, er) := ⟨_, _, _, rfl⟩
  obtain ⟨U, hU⟩ : ∃ u, unm zs = u := ⟨_, rfl⟩
  have hUN : U = if er ≠ 0 then (dG, er) else if sz < zs.length then (dG, 13) else finM (RS.mk d 0 false).msg := by rw [← hU]; simp only [unm, htu]
  have hal : Below w.heap.size w (w.alloc (.cells #[.int .i64 0, .int .i64 0, .int .i64 0, .int .i64 0, .int .i64 0, .int .i64 0, .int .i64 0, .bool false, .slice none 0 0, .int .i64 0, .int .i64 0, .int .i64 0, .slice none 0 0, .int .i64 0, .int .i64 0, .int .i64 0, .slice none 0 0] 30)) := (Below.refl _ _).alloc (Nat.le_refl _) _
  have hz0 : (w.alloc (.cells #[.int .i64 0, .int .i64 0, .int .i64 0, .int .i64 0, .int .i64 0, .int .i64 0, .int .i64 0, .bool false, .slice none 0 0, .int .i64 0, .int .i64 0, .int .i64 0, .slice none 0 0, .int .i64 0, .int .i64 0, .int .i64 0, .slice none 0 0] 30)).heap[w.heap.size]? = some (.cells #[.int .i64 0, .int .i64 0, .int .i64 0, .int .i64 0, .int .i64 0, .int .i64 0, .int .i64 0, .bool false, .slice none 0 0, .int .i64 0, .int .i64 0, .int .i64 0, .slice none 0 0, .int .i64 0, .int .i64 0, .int .i64 0, .slice none 0 0] 30) := heap_alloc_new w _
  have hs0 : (w.alloc (.cells #[.int .i64 0, .int .i64 0, .int .i64 0, .int .i64 0, .int .i64 0, .int .i64 0, .int .i64 0, .bool false, .slice none 0 0, .int .i64 0, .int .i64 0, .int .i64 0, .slice none 0 0, .int .i64 0, .int .i64 0, .int .i64 0, .slice none 0 0] 30)).heap.size = w.heap.size + 1 := by simp
  have HC0 := hide (unseal_any _ zs _ (hs.below hal) hby hm)
  rw [htu] at HC0 hsm hbt
  simp only at HC0 hsm hbt
  rw [hU]
  obtain ⟨ao, cap, rfl, _⟩ := hs
  obtain ⟨len, hlen⟩ : ∃ n, zs.length = n := ⟨_, rfl⟩
  rw [hlen] at HC0 hUN hm
  rw [hlen]
  obtain ⟨w1, hw1⟩ : ∃ y, w.alloc (.cells #[.int .i64 0, .int .i64 0, .int .i64 0, .int .i64 0, .int .i64 0, .int .i64 0, .int .i64 0, .bool false, .slice none 0 0, .int .i64 0, .int .i64 0, .int .i64 0, .slice none 0 0, .int .i64 0, .int .i64 0, .int .i64 0, .slice none 0 0] 30) = y := ⟨_, rfl⟩
  rw [hw1] at hal hz0 hs0 HC0
  have HAL := hide hal
  have HZ0 := hide hz0
  have HS0 := hide hs0
  have HSM := hide hsm
  have HBT := hide hbt
  have HUN := hide hUN
  clear hal hz0 hs0 hsm hbt hUN htu hU hlen hby
  go_enter Tryz.func12, Tryz.ntmps12
  go_wp2_with (rw [hw1])
  refine (unhide HC0).mono ?_
  rintro e w2 ⟨x, rfl, ox, hb2⟩
  have hB2 : Below w.heap.size w w2 := (unhide HAL).trans (hb2.mono (unhide HAL).size)
  have hz2 : w2.heap[w.heap.size]? = some (.cells #[.int .i64 0, .int .i64 0, .int .i64 0, .int .i64 0, .int .i64 0, .int .i64 0, .int .i64 0, .bool false, .slice none 0 0, .int .i64 0, .int .i64 0, .int .i64 0, .slice none 0 0, .int .i64 0, .int .i64 0, .int .i64 0, .slice none 0 0] 30) := (hb2.block _ (by have := unhide HS0; omega)).trans (unhide HZ0)
  obtain ⟨xa, xc, rfl⟩ := own_shape ox
  have HB2 := hide hB2
  have HZ2 := hide hz2
  have HOX := hide ox
  clear hb2 hB2 ox HC0 hz2
  by_cases he : er = 0
  case neg =>
    have heb : (er != 0) = true := by simpa using he
    have hU : U = (dG, er) := (unhide HUN).trans (if_pos he)
    have HU := hide hU
    clear hU HUN
    obtain ⟨dl, hdl⟩ : ∃ n, d.length = n := ⟨_, rfl⟩
    rw [hdl]
    clear hdl HOX
    go_wp2_with (refine wpList_store_row rfl 30 _ _ rfl w.heap.size _ _ rfl rfl 30 (unhide HZ2) (by kernel_rfl) rfl (by first | kernel_rfl | simp [Value.oneCell']) ?_)
    refine bodyPost_ret (results_cell_row_tmp rfl _ _ w.heap.size 30 #[.int .i64 0, .int .i64 0, .int .i64 0, .int .i64 0, .int .i64 0, .int .i64 0, .int .i64 0, .bool false, .slice none 0 0, .int .i64 0, .int .i64 0, .int .i64 0, .slice none 0 0, .int .i64 0, .int .i64 0, .int .i64 0, .slice none 0 0] (0, 0) _ rfl (setRow_heap _ _ _ _ _ _ (unhide HZ2)) Tryz.underlying30 rfl (by kernel_rfl)) rfl ?_
    rw [unhide HU]
    exact ⟨_, rfl, ownM_zero _ _, below_setRow (unhide HB2) (Nat.le_refl _)⟩
  subst he
  by_cases hsz : (sz : Int) < (len : Int)
  · have hU : U = (dG, 13) := (unhide HUN).trans ((if_neg (by simp)).trans (if_pos (by omega)))
    have HU := hide hU
    clear hU HUN
    obtain ⟨dl, hdl⟩ : ∃ n, d.length = n := ⟨_, rfl⟩
    rw [hdl]
    clear hdl HOX
    go_wp2_with (refine wpList_store_row rfl 30 _ _ rfl w.heap.size _ _ rfl rfl 30 (unhide HZ2) (by kernel_rfl) rfl (by first | kernel_rfl | simp [Value.oneCell']) ?_)
    refine bodyPost_ret (results_cell_row_tmp rfl _ _ w.heap.size 30 #[.int .i64 0, .int .i64 0, .int .i64 0, .int .i64 0, .int .i64 0, .int .i64 0, .int .i64 0, .bool false, .slice none 0 0, .int .i64 0, .int .i64 0, .int .i64 0, .slice none 0 0, .int .i64 0, .int .i64 0, .int .i64 0, .slice none 0 0] (0, 0) _ rfl (setRow_heap _ _ _ _ _ _ (unhide HZ2)) Tryz.underlying30 rfl (by kernel_rfl)) rfl ?_
    rw [unhide HU]
    exact ⟨_, rfl, ownM_zero _ _, below_setRow (unhide HB2) (Nat.le_refl _)⟩
  have hU : U = finM (RS.mk d 0 false).msg := (unhide HUN).trans ((if_neg (by simp)).trans (if_neg (by omega)))
  have hrm := msg_byt (s := RS.mk d 0 false) (unhide HBT)
  have hx := (sees_of_own (unhide HOX)).2
  have hal3 : Below w2.heap.size w2 (w2.alloc (.cells #[.slice xa d.length xc, .int .i64 0, .bool false] 63)) := (Below.refl _ _).alloc (Nat.le_refl _) _
  have hR3 : (w2.alloc (.cells #[.slice xa d.length xc, .int .i64 0, .bool false] 63)).heap[w2.heap.size]? = some (.cells #[.slice xa d.length xc, .int .i64 0, .bool false] 63) := heap_alloc_new w2 _
  have hRd : RdS (w2.alloc (.cells #[.slice xa d.length xc, .int .i64 0, .bool false] 63)) w2.heap.size w2.heap.size ⟨d, 0, false⟩ :=
    ⟨⟨_, cell_of_heap hR3, hx.upto.below hal3 (Nat.le_refl _)⟩, cell_of_heap hR3, cell_of_heap hR3, fun o => frozen_of_heap hR3, Nat.le_refl _, unhide HBT, by have := unhide HSM; show d.length ≤ _; omega⟩
  have hs2 : w.heap.size < w2.heap.size := (Array.getElem?_eq_some_iff.1 (unhide HZ2)).1
  have hz3 : (w2.alloc (.cells #[.slice xa d.length xc, .int .i64 0, .bool false] 63)).heap[w.heap.size]? = some (.cells #[.int .i64 0, .int .i64 0, .int .i64 0, .int .i64 0, .int .i64 0, .int .i64 0, .int .i64 0, .bool false, .slice none 0 0, .int .i64 0, .int .i64 0, .int .i64 0, .slice none 0 0, .int .i64 0, .int .i64 0, .int .i64 0, .slice none 0 0] 30) := (hal3.block _ hs2).trans (unhide HZ2)
  have hs3 : (w2.alloc (.cells #[.slice xa d.length xc, .int .i64 0, .bool false] 63)).heap.size = w2.heap.size + 1 := by simp
  have hC := message_r hRd
  obtain ⟨mg, s1, hms⟩ : ∃ m s', (RS.mk d 0 false).msg = (m, s') := ⟨_, _, rfl⟩
  rw [hms] at hC hrm hU
  simp only at hC hrm
  obtain ⟨F, hF⟩ : ∃ F, s1.fin.fault (mayMsg mg) = F := ⟨_, rfl⟩
  have hU2 : U = if F = 0 then (mg, 0) else (dG, F) := by rw [hU, ← hF]; rfl
  obtain ⟨w3, hw3⟩ : ∃ y, w2.alloc (.cells #[.slice xa d.length xc, .int .i64 0, .bool false] 63) = y := ⟨_, rfl⟩
  rw [hw3] at hal3 hRd hz3 hs3 hC
  have hB3 : Below w.heap.size w w3 := (unhide HB2).trans (hal3.mono (unhide HB2).size)
  obtain ⟨R, hR⟩ : ∃ n, w2.heap.size = n := ⟨_, rfl⟩
  rw [hR] at hC hs2 hs3
  obtain ⟨dn, hdl⟩ : ∃ n, d.length = n := ⟨_, rfl⟩
  rw [hdl] at hw3
  rw [hdl]
  have HC3 := hide hC
  have HRM := hide hrm.1
  have HF := hide hF
  have HU := hide hU2
  have HZ3 := hide hz3
  have HB3 := hide hB3
  have HS3 := hide hs3
  clear hU hrm hx hal3 hR3 hRd hz3 hs3 hC hms hF hU2 hB3 hdl HOX HUN HBT HSM
  go_wp2_with (first | rw [hw3] | rw [hR])
  refine (unhide HC3).mono ?_
  rintro e y1 ⟨cs, rfl, om, p1, q1⟩
  have hS3 := unhide HS3
  have hz1 : y1.heap[w.heap.size]? = some (.cells #[.int .i64 0, .int .i64 0, .int .i64 0, .int .i64 0, .int .i64 0, .int .i64 0, .int .i64 0, .bool false, .slice none 0 0, .int .i64 0, .int .i64 0, .int .i64 0, .slice none 0 0, .int .i64 0, .int .i64 0, .int .i64 0, .slice none 0 0] 30) := q1.same (unhide HZ3) (by omega)
  have hb1 : Below w.heap.size w y1 := (unhide HB3).trans (q1.below (by omega) (by omega))
  have hsy : R + 1 ≤ y1.heap.size := by have := q1.size; omega
  obtain ⟨lv, tv, dv, rfl, o1, o2, o3⟩ := om
  obtain ⟨la, lc, rfl⟩ := o1.shape
  obtain ⟨ta, tc, rfl⟩ := o2.shape
  obtain ⟨da, dc, rfl⟩ := own_shape o3
  have om2 : OwnM (R + 1) y1 _ mg := OwnM.mono ⟨_, _, _, rfl, o1, o2, o3⟩ (by omega)
  obtain ⟨aK, eK⟩ : ∃ x, mg.kind = x := ⟨_, rfl⟩
  obtain ⟨aF, eF⟩ : ∃ x, mg.frm = x := ⟨_, rfl⟩
  obtain ⟨aO, eO⟩ : ∃ x, mg.to = x := ⟨_, rfl⟩
  obtain ⟨aT, eT⟩ : ∃ x, mg.term = x := ⟨_, rfl⟩
  obtain ⟨aS, eS⟩ : ∃ x, mg.slot = x := ⟨_, rfl⟩
  obtain ⟨aL, eL⟩ : ∃ x, mg.last = x := ⟨_, rfl⟩
  obtain ⟨aC, eC⟩ : ∃ x, mg.commit = x := ⟨_, rfl⟩
  obtain ⟨aY, eY⟩ : ∃ x, mg.yes = x := ⟨_, rfl⟩
  obtain ⟨ll, el⟩ : ∃ x, mg.list.length = x := ⟨_, rfl⟩
  obtain ⟨ek, eek⟩ : ∃ x, mg.ent.kind = x := ⟨_, rfl⟩
  obtain ⟨ef, eef⟩ : ∃ x, mg.ent.frm = x := ⟨_, rfl⟩
  obtain ⟨en, een⟩ : ∃ x, mg.ent.num = x := ⟨_, rfl⟩
  obtain ⟨tl, etl⟩ : ∃ x, mg.ent.txns.length = x := ⟨_, rfl⟩
  obtain ⟨ps, eps⟩ : ∃ x, mg.part.slot = x := ⟨_, rfl⟩
  obtain ⟨pi, epi⟩ : ∃ x, mg.part.idx = x := ⟨_, rfl⟩
  obtain ⟨pm, epm⟩ : ∃ x, mg.part.many = x := ⟨_, rfl⟩
  obtain ⟨dl, edl⟩ : ∃ x, mg.part.data.length = x := ⟨_, rfl⟩
  rw [eK, eF, eO, eT, eS, eL, eC, eY, el, eek, eef, een, etl, eps, epi, epm, edl] at om2
  rw [eK, eF, eO, eT, eS, eL, eC, eY, el, eek, eef, een, etl, eps, epi, epm, edl]
  clear o1 o2 o3 eK eF eO eT eS eL eC eY el eek eef een etl eps epi epm edl
  have hal4 : Below y1.heap.size y1 (y1.alloc (.cells #[.int .i64 0, .int .i64 0, .int .i64 0, .int .i64 0, .int .i64 0, .int .i64 0, .int .i64 0, .bool false, .slice none 0 0, .int .i64 0, .int .i64 0, .int .i64 0, .slice none 0 0, .int .i64 0, .int .i64 0, .int .i64 0, .slice none 0 0] 30)) := (Below.refl _ _).alloc (Nat.le_refl _) _
  have hx4 : (y1.alloc (.cells #[.int .i64 0, .int .i64 0, .int .i64 0, .int .i64 0, .int .i64 0, .int .i64 0, .int .i64 0, .bool false, .slice none 0 0, .int .i64 0, .int .i64 0, .int .i64 0, .slice none 0 0, .int .i64 0, .int .i64 0, .int .i64 0, .slice none 0 0] 30)).heap[y1.heap.size]? = some (.cells #[.int .i64 0, .int .i64 0, .int .i64 0, .int .i64 0, .int .i64 0, .int .i64 0, .int .i64 0, .bool false, .slice none 0 0, .int .i64 0, .int .i64 0, .int .i64 0, .slice none 0 0, .int .i64 0, .int .i64 0, .int .i64 0, .slice none 0 0] 30) := heap_alloc_new y1 _
  have hz4 : (y1.alloc (.cells #[.int .i64 0, .int .i64 0, .int .i64 0, .int .i64 0, .int .i64 0, .int .i64 0, .int .i64 0, .bool false, .slice none 0 0, .int .i64 0, .int .i64 0, .int .i64 0, .slice none 0 0, .int .i64 0, .int .i64 0, .int .i64 0, .slice none 0 0] 30)).heap[w.heap.size]? = some (.cells #[.int .i64 0, .int .i64 0, .int .i64 0, .int .i64 0, .int .i64 0, .int .i64 0, .int .i64 0, .bool false, .slice none 0 0, .int .i64 0, .int .i64 0, .int .i64 0, .slice none 0 0, .int .i64 0, .int .i64 0, .int .i64 0, .slice none 0 0] 30) := (Below.heap_alloc _ _ _ (by omega)).trans hz1
  obtain ⟨ya, hya⟩ : ∃ y, y1.alloc (.cells #[.int .i64 0, .int .i64 0, .int .i64 0, .int .i64 0, .int .i64 0, .int .i64 0, .int .i64 0, .bool false, .slice none 0 0, .int .i64 0, .int .i64 0, .int .i64 0, .slice none 0 0, .int .i64 0, .int .i64 0, .int .i64 0, .slice none 0 0] 30) = y := ⟨_, rfl⟩
  obtain ⟨M, hM⟩ : ∃ n, y1.heap.size = n := ⟨_, rfl⟩
  rw [hya] at hal4 hx4 hz4
  rw [hM] at hx4 hsy
  have pa := p1.below hal4
  have oma : OwnM (R + 1) ya #[.int .i64 aK, .int .i64 aF, .int .i64 aO, .int .i64 aT, .int .i64 aS, .int .i64 aL, .int .i64 aC, .bool aY, .slice la ll lc, .int .i64 ek, .int .i64 ef, .int .i64 en, .slice ta tl tc, .int .i64 ps, .int .i64 pi, .int .i64 pm, .slice da dl dc] mg := om2.same fun k _ hl => hal4.block k hl
  have hba : Below w.heap.size w ya := hb1.trans (hal4.mono hb1.size)
  have hsa : M + 1 ≤ ya.heap.size := by have := (Array.getElem?_eq_some_iff.1 hx4).1; omega
  have hxb := setRow_heap ya M _ #[.int .i64 aK, .int .i64 aF, .int .i64 aO, .int .i64 aT, .int .i64 aS, .int .i64 aL, .int .i64 aC, .bool aY, .slice la ll lc, .int .i64 ek, .int .i64 ef, .int .i64 en, .slice ta tl tc, .int .i64 ps, .int .i64 pi, .int .i64 pm, .slice da dl dc] 30 (0, 0) hx4
  have hzb : (ya.setRow M #[.int .i64 aK, .int .i64 aF, .int .i64 aO, .int .i64 aT, .int .i64 aS, .int .i64 aL, .int .i64 aC, .bool aY, .slice la ll lc, .int .i64 ek, .int .i64 ef, .int .i64 en, .slice ta tl tc, .int .i64 ps, .int .i64 pi, .int .i64 pm, .slice da dl dc]).heap[w.heap.size]? = some (.cells #[.int .i64 0, .int .i64 0, .int .i64 0, .int .i64 0, .int .i64 0, .int .i64 0, .int .i64 0, .bool false, .slice none 0 0, .int .i64 0, .int .i64 0, .int .i64 0, .slice none 0 0, .int .i64 0, .int .i64 0, .int .i64 0, .slice none 0 0] 30) := (setRow_other _ _ _ _ (by omega)).trans hz4
  have pb := pa.otherRow (b := M) (by omega) #[.int .i64 aK, .int .i64 aF, .int .i64 aO, .int .i64 aT, .int .i64 aS, .int .i64 aL, .int .i64 aC, .bool aY, .slice la ll lc, .int .i64 ek, .int .i64 ef, .int .i64 en, .slice ta tl tc, .int .i64 ps, .int .i64 pi, .int .i64 pm, .slice da dl dc]
  have hbb := below_setRow hba (cs := #[.int .i64 aK, .int .i64 aF, .int .i64 aO, .int .i64 aT, .int .i64 aS, .int .i64 aL, .int .i64 aC, .bool aY, .slice la ll lc, .int .i64 ek, .int .i64 ef, .int .i64 en, .slice ta tl tc, .int .i64 ps, .int .i64 pi, .int .i64 pm, .slice da dl dc]) (g := M) (by omega)
  have omb : OwnM (R + 1) (ya.setRow M #[.int .i64 aK, .int .i64 aF, .int .i64 aO, .int .i64 aT, .int .i64 aS, .int .i64 aL, .int .i64 aC, .bool aY, .slice la ll lc, .int .i64 ek, .int .i64 ef, .int .i64 en, .slice ta tl tc, .int .i64 ps, .int .i64 pi, .int .i64 pm, .slice da dl dc]) #[.int .i64 aK, .int .i64 aF, .int .i64 aO, .int .i64 aT, .int .i64 aS, .int .i64 aL, .int .i64 aC, .bool aY, .slice la ll lc, .int .i64 ek, .int .i64 ef, .int .i64 en, .slice ta tl tc, .int .i64 ps, .int .i64 pi, .int .i64 pm, .slice da dl dc] mg := ownM_setRow oma hx4 _
  obtain ⟨yb, hyb⟩ : ∃ y, ya.setRow M #[.int .i64 aK, .int .i64 aF, .int .i64 aO, .int .i64 aT, .int .i64 aS, .int .i64 aL, .int .i64 aC, .bool aY, .slice la ll lc, .int .i64 ek, .int .i64 ef, .int .i64 en, .slice ta tl tc, .int .i64 ps, .int .i64 pi, .int .i64 pm, .slice da dl dc] = y := ⟨_, rfl⟩
  rw [hyb] at hxb hzb pb hbb omb
  have HX4 := hide hx4
  have HXB := hide (And.intro hxb hzb)
  have HBB := hide hbb
  have HOB := hide omb
  have HC4 := hide (end_r pb)
  have hMR : R < M := by omega
  clear hz1 hb1 hsy om2 hal4 hx4 hz4 pa oma hba hsa hxb hzb pb hbb omb p1 q1 HC3
  go_wp2_with (first | rw [hya] | rw [hyb] | rw [hM] | refine wpList_store_row rfl 30 _ _ rfl M _ _ rfl rfl 30 (unhide HX4) (by kernel_rfl) rfl (by first | kernel_rfl | simp [Value.oneCell']) ?_)
  refine (unhide HC4).mono ?_
  rintro e y2 ⟨rfl, p2, q2⟩
  have hx2 := q2.same (unhide HXB).1 (by omega)
  have hz2 := q2.same (unhide HXB).2 (by omega)
  have om2 : OwnM (R + 1) y2 #[.int .i64 aK, .int .i64 aF, .int .i64 aO, .int .i64 aT, .int .i64 aS, .int .i64 aL, .int .i64 aC, .bool aY, .slice la ll lc, .int .i64 ek, .int .i64 ef, .int .i64 en, .slice ta tl tc, .int .i64 ps, .int .i64 pi, .int .i64 pm, .slice da dl dc] mg := (unhide HOB).same (but_same q2 (by omega))
  have hb2 : Below w.heap.size w y2 := (unhide HBB).trans (q2.below (by omega) (by have := (unhide HBB).size; omega))
  have HC5 := hide (messageMayBe_any _ mg y2 (om2.sees (unhide HRM)) (unhide HRM).ok)
  have HX2 := hide (And.intro hx2 hz2)
  have HXM := hide hx2
  have HP2 := hide p2
  have HO2 := hide om2
  have HBw := hide hb2
  clear p2 q2 hx2 hz2 om2 hb2 HC4 HX4
  go_wp2_with (refine wpList_load_wanted (by rfl) 30 _ rfl M rfl 30 _ (0, 0) _ (unhide HXM) Tryz.underlying30 rfl (by kernel_rfl) ?_)
  refine (unhide HC5).mono ?_
  rintro e y3 ⟨rfl, hb3⟩
  have HC6 := hide (fault_r ((unhide HP2).below hb3) (mayMsg mg))
  rw [unhide HF] at HC6
  have hx3 : y3.heap[M]? = some (.cells #[.int .i64 aK, .int .i64 aF, .int .i64 aO, .int .i64 aT, .int .i64 aS, .int .i64 aL, .int .i64 aC, .bool aY, .slice la ll lc, .int .i64 ek, .int .i64 ef, .int .i64 en, .slice ta tl tc, .int .i64 ps, .int .i64 pi, .int .i64 pm, .slice da dl dc] 30) := (hb3.block _ (Array.getElem?_eq_some_iff.1 (unhide HX2).1).1).trans (unhide HX2).1
  have hz3 : y3.heap[w.heap.size]? = some (.cells #[.int .i64 0, .int .i64 0, .int .i64 0, .int .i64 0, .int .i64 0, .int .i64 0, .int .i64 0, .bool false, .slice none 0 0, .int .i64 0, .int .i64 0, .int .i64 0, .slice none 0 0, .int .i64 0, .int .i64 0, .int .i64 0, .slice none 0 0] 30) := (hb3.block _ (Array.getElem?_eq_some_iff.1 (unhide HX2).2).1).trans (unhide HX2).2
  have hb4 : Below w.heap.size w y3 := (unhide HBw).trans (hb3.mono (unhide HBw).size)
  have om3 : OwnM (R + 1) y3 #[.int .i64 aK, .int .i64 aF, .int .i64 aO, .int .i64 aT, .int .i64 aS, .int .i64 aL, .int .i64 aC, .bool aY, .slice la ll lc, .int .i64 ek, .int .i64 ef, .int .i64 en, .slice ta tl tc, .int .i64 ps, .int .i64 pi, .int .i64 pm, .slice da dl dc] mg := (unhide HO2).same fun k _ hl => hb3.block k hl
  have HX3 := hide hx3
  have HZ9 := hide hz3
  have HB9 := hide hb4
  have HO9 : Hid (∀ cs, OwnM w.heap.size (y3.setRow w.heap.size cs) #[.int .i64 aK, .int .i64 aF, .int .i64 aO, .int .i64 aT, .int .i64 aS, .int .i64 aL, .int .i64 aC, .bool aY, .slice la ll lc, .int .i64 ek, .int .i64 ef, .int .i64 en, .slice ta tl tc, .int .i64 ps, .int .i64 pi, .int .i64 pm, .slice da dl dc] mg) := fun cs => (om3.same (row_same cs (by omega))).mono (by omega)
  clear hb3 hx3 hz3 hb4 om3 HC5 HXM
  go_wp2_with fail
  refine (unhide HC6).mono ?_
  rintro e y4 ⟨rfl, rfl⟩
  clear HC6
  by_cases hF0 : F = 0
  · subst hF0
    have hU : U = (mg, 0) := (unhide HU).trans (if_pos rfl)
    have HU1 := hide hU
    clear hU HU
    go_wp2_with (first | refine wpList_load_row rfl 30 _ rfl M rfl 30 _ (0, 0) _ (unhide HX3) Tryz.underlying30 rfl (by kernel_rfl) ?_ | refine wpList_store_row rfl 30 _ _ rfl w.heap.size _ _ rfl rfl 30 (unhide HZ9) (by kernel_rfl) rfl (by first | kernel_rfl | simp [Value.oneCell']) ?_)
    refine bodyPost_ret (results_cell_row_tmp rfl _ _ w.heap.size 30 #[.int .i64 aK, .int .i64 aF, .int .i64 aO, .int .i64 aT, .int .i64 aS, .int .i64 aL, .int .i64 aC, .bool aY, .slice la ll lc, .int .i64 ek, .int .i64 ef, .int .i64 en, .slice ta tl tc, .int .i64 ps, .int .i64 pi, .int .i64 pm, .slice da dl dc] (0, 0) _ rfl (setRow_heap _ _ _ _ _ _ (unhide HZ9)) Tryz.underlying30 rfl (by kernel_rfl)) rfl ?_
    rw [unhide HU1]
    exact ⟨_, rfl, unhide HO9 _, below_setRow (unhide HB9) (Nat.le_refl _)⟩
  · have hU : U = (dG, F) := (unhide HU).trans (if_neg hF0)
    have HU1 := hide hU
    have hFb : (F != 0) = true := by simpa using hF0
    clear hU HU
    go_wp2_with (refine wpList_store_row rfl 30 _ _ rfl w.heap.size _ _ rfl rfl 30 (unhide HZ9) (by kernel_rfl) rfl (by first | kernel_rfl | simp [Value.oneCell']) ?_)
    refine bodyPost_ret (results_cell_row_tmp rfl _ _ w.heap.size 30 #[.int .i64 0, .int .i64 0, .int .i64 0, .int .i64 0, .int .i64 0, .int .i64 0, .int .i64 0, .bool false, .slice none 0 0, .int .i64 0, .int .i64 0, .int .i64 0, .slice none 0 0, .int .i64 0, .int .i64 0, .int .i64 0, .slice none 0 0] (0, 0) _ rfl (setRow_heap _ _ _ _ _ _ (unhide HZ9)) Tryz.underlying30 rfl (by kernel_rfl)) rfl ?_
    rw [unhide HU1]
    exact ⟨_, rfl, ownM_zero _ _, below_setRow (unhide HB9) (Nat.le_refl _)⟩
end Go.Proofs.YtggllgimlfchhabGreat
