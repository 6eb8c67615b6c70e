/- Both flashes side by side. -/
import Derived.Test.YteehhbgjjamjiaaUH
namespace Go.Proofs.Yteehhbgjjamjiaa
open Go.RowKit

/-- What the document's flash keeps clear of may be named otherwise where nothing lies. -/
theorem IsRf.widen {w : World} {S : Nat → Prop} {hr gp gw cp cw : Nat} {pb cb : Nat → Nat} {bv : Nat → Nat → Value} {F : Fl} {kp : Int} (H : IsRf w S hr gp gw cp cw pb cb bv F kp) (S' : Nat → Prop) (hS : ∀ k, k < w.heap.size → S' k → S k) : IsRf w S' hr gp gw cp cw pb cb bv F kp := by
  obtain ⟨l1, l2, l3, l4⟩ := H.rlt
  have three : ∀ k, k < w.heap.size → Three hr gp gw S' k → Three hr gp gw S k := by
    intro k hk c
    rcases c with c | c | c | c
    · exact .inl c
    · exact .inr (.inl c)
    · exact .inr (.inr (.inl c))
    · exact .inr (.inr (.inr (hS k hk c)))
  exact { H with
    s1 := fun c => H.s1 (hS _ l1 c), s2 := fun c => H.s2 (hS _ l2 c), s3 := fun c => H.s3 (hS _ l3 c)
    away := fun i hi c => H.away i hi (three _ (l4 i hi) c)
    bytes := fun i j hi hj h2 => by
      refine ⟨(H.bytes i j hi hj h2).1, fun a l c e d => ?_⟩
      refine (H.bytes i j hi hj h2).2 a l c e (three _ ?_ d)
      obtain ⟨ao, cap, e', hl, hn, ha⟩ := (H.bytes i j hi hj h2).1
      rw [e] at e'
      cases e'
      have hc := ha a rfl 0 (by have := H.full i j hi hj h2; simp [bytesOf]; omega)
      have hb := World.block_lt_of_cell? w _ hc
      have : (a.add 0).block = a.block := by (unfold Addr.add; split <;> simp_all)
      rwa [this] at hb }

/-- The flash F, and the document's beside it; all that lies below B is neither's. -/
structure Jt (w : World) (B g h cap hr gp gw cp cw : Nat) (S : Nat → Prop) (F : Fl) : Prop where
  fl : IsFl w g h cap F
  rf : IsRfE w S hr gp gw cp cw F
  inh : ∀ k, S k → k < w.heap.size
  sg : S g
  sh : S h
  low : ∀ k, k < B → S k
  bg : B ≤ g
  bh : B ≤ h

theorem Jt.apart {w : World} {B g h cap hr gp gw cp cw : Nat} {S : Nat → Prop} {F : Fl} (J : Jt w B g h cap hr gp gw cp cw S F) : ∀ k, S k → ¬ OnlyR hr gp gw k := by
  obtain ⟨pb, cb, bv, kp, H⟩ := J.rf
  rintro k hk (rfl | rfl | rfl)
  · exact H.s1 hk
  · exact H.s2 hk
  · exact H.s3 hk

/-- Only new blocks. -/
theorem Jt.below {w w' : World} {B g h cap hr gp gw cp cw : Nat} {S : Nat → Prop} {F : Fl} (J : Jt w B g h cap hr gp gw cp cw S F) (hb : Below w.heap.size w w') : Jt w' B g h cap hr gp gw cp cw S F := by
  obtain ⟨pb, cb, bv, kp, H⟩ := J.rf
  exact ⟨J.fl.below hb, ⟨pb, cb, bv, kp, H.below hb⟩, fun k hk => Nat.lt_of_lt_of_le (J.inh k hk) hb.size, J.sg, J.sh, J.low, J.bg, J.bh⟩

/-- The flash's own call: the document's flash stands. -/
theorem Jt.half {w w1 : World} {B g h cap hr gp gw cp cw : Nat} {S : Nat → Prop} {F : Fl} (J : Jt w B g h cap hr gp gw cp cw S F) (hU : Upd (Two g h) w.heap.size w w1) :
    ∃ pb cb bv kp, IsRf w1 S hr gp gw cp cw pb cb bv F kp ∧ (∀ k, S k → k < w1.heap.size) ∧ Below B w w1 := by
  obtain ⟨pb, cb, bv, kp, H⟩ := J.rf
  refine ⟨pb, cb, bv, kp, H.upd hU (Nat.le_refl _) ?_, fun k hk => Nat.lt_of_lt_of_le (J.inh k hk) hU.size, hU.below ?_ ?_⟩
  · rintro k _ (rfl | rfl)
    · exact J.sg
    · exact J.sh
  · have := J.bg; have := J.fl.glt; omega
  · rintro k hk (rfl | rfl)
    · have := J.bg; omega
    · have := J.bh; omega

/-- .. and then the document's. -/
theorem Jt.whole {w w1 w2 : World} {B g h cap hr gp gw cp cw : Nat} {S : Nat → Prop} {F F1 : Fl} (J : Jt w B g h cap hr gp gw cp cw S F) (hsz : w.heap.size ≤ w1.heap.size) (hI : IsFl w1 g h cap F1) (hR : IsRfE w2 S hr gp gw cp cw F1) (hU : Upd (OnlyR hr gp gw) w1.heap.size w1 w2) :
    Jt w2 B g h cap hr gp gw cp cw S F1 ∧ Below B w1 w2 := by
  have hap := J.apart
  refine ⟨⟨hI.upd hU (Nat.le_refl _) (hap g J.sg) (hap h J.sh), hR, fun k hk => ?_, J.sg, J.sh, J.low, J.bg, J.bh⟩, hU.below ?_ ?_⟩
  · have := J.inh k hk; have := hU.size; omega
  · have := J.bg; have := J.fl.glt; omega
  · exact fun k hk c => hap k (J.low k hk) c

/-- Another flash of the same contents, of new blocks, takes the flash's place. -/
theorem Jt.swap {w w' : World} {B g h cap hr gp gw cp cw g' h' cap' : Nat} {S : Nat → Prop} {F : Fl} (J : Jt w B g h cap hr gp gw cp cw S F) (hb : Below w.heap.size w w') (hI : IsFl w' g' h' cap' F) (hg : w.heap.size ≤ g') (hh : w.heap.size ≤ h') :
    Jt w' B g' h' cap' hr gp gw cp cw (fun k => S k ∨ (w.heap.size ≤ k ∧ k < w'.heap.size)) F := by
  obtain ⟨pb, cb, bv, kp, H⟩ := J.rf
  have H' : IsRf w (fun k => S k ∨ (w.heap.size ≤ k ∧ k < w'.heap.size)) hr gp gw cp cw pb cb bv F kp := H.widen _ (fun k hk c => c.elim id (fun c => absurd hk (by omega)))
  refine ⟨hI, ⟨pb, cb, bv, kp, H'.below hb⟩, fun k c => ?_, .inr ⟨hg, hI.glt⟩, .inr ⟨hh, hI.hlt⟩, fun k hk => .inl (J.low k hk), ?_, ?_⟩
  · rcases c with c | c
    · have := J.inh k c; have := hb.size; omega
    · exact c.2
  · have := J.bg; have := J.fl.glt; omega
  · have := J.bh; have := J.fl.hlt; omega

end Go.Proofs.Yteehhbgjjamjiaa
