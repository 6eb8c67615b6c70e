/- A store and a map that holds the same: what Put, Erase and the map's own writes leave. -/
import Derived.Test.YtalecnfflcjkmaaDoorMR
import Derived.Test.YtalecnfflcjkmaaDoorP1
namespace Go.Proofs.YtalecnfflcjkmaaDoor
open Go.RowKit
set_option maxRecDepth 100000

structure MS (w : World) (b0 sb mb : Nat) (L : List Nd) (luck : Int) : Prop where
  sk : Sk w b0 sb b0 L luck
  map : MapL w mb L
  low : b0 ≤ mb
theorem ms_ne {w : World} {b0 sb hd mb : Nat} {L L' : List Nd} {luck : Int} (h : Sk w b0 sb hd L luck) (m : MapL w mb L') {k : Nat} (hk : Bl sb hd L k) : k ≠ mb := fun e => by
  subst e
  obtain ⟨es, c, hm, _⟩ := m
  obtain ⟨N, hs, _⟩ := h.mem
  rcases hk with rfl | rfl | ⟨n, hn, rfl⟩
  · rw [hs.sk] at hm; cases hm
  · rw [hs.head] at hm; cases hm
  · rw [hs.node n hn] at hm; cases hm
theorem MS.below {w w' : World} {b0 sb mb : Nat} {L : List Nd} {luck : Int} (h : MS w b0 sb mb L luck) (hb : Below w.heap.size w w') : MS w' b0 sb mb L luck := ⟨h.sk.below hb, h.map.below hb, h.low⟩
/-- The blocks of both. -/
def Bm (sb b0 mb : Nat) (L : List Nd) (k : Nat) : Prop := Bl sb b0 L k ∨ k = mb
theorem MS.lt {w : World} {b0 sb mb : Nat} {L : List Nd} {luck : Int} (h : MS w b0 sb mb L luck) {k : Nat} (hk : Bm sb b0 mb L k) : k < w.heap.size := by
  rcases hk with hk | rfl
  · exact h.sk.lt hk
  · exact h.map.lt
theorem MS.size {w : World} {b0 sb mb : Nat} {L : List Nd} {luck : Int} (h : MS w b0 sb mb L luck) : b0 < w.heap.size := h.sk.lt (.inr (.inl rfl))
theorem MS.frame {w w' : World} {b0 sb mb : Nat} {L : List Nd} {luck : Int} (h : MS w b0 sb mb L luck) (hU : Upd (Bm sb b0 mb L) w.heap.size w w') : Below b0 w w' :=
  ⟨hU.os, hU.tape, hU.output, hU.size, fun k hk => hU.block k (by have := h.size; omega) fun c => by
    rcases c with c | c
    · have := h.sk.from_ k c; omega
    · have := h.low; omega⟩
/-- A store turned, then the map. -/
theorem ms_turn {w w' y : World} {b0 sb mb : Nat} {L L' : List Nd} {luck luck' : Int} (h : MS w b0 sb mb L luck) (hs : Sk w' b0 sb b0 L' luck') (hU : Upd (Bl sb b0 L) w.heap.size w w') (hm : MapL y mb L') (hw : Wr1 mb w' y) : MS y b0 sb mb L' luck' ∧ Upd (Bm sb b0 mb L) w.heap.size w y := by
  have hmw : MapL w' mb L := h.map.keep (hU.block mb h.map.lt fun c => ms_ne h.sk h.map c rfl)
  refine ⟨⟨hs.keep fun k hk => hw.1 k (ms_ne hs hmw hk), hm, h.low⟩, ⟨hw.2.2.1.trans hU.os, hw.2.2.2.1.trans hU.tape, hw.2.2.2.2.trans hU.output, by rw [hw.2.1]; exact hU.size, fun k hk hn => ?_⟩⟩
  rw [hw.1 k fun e => hn (.inr e)]
  exact hU.block k hk fun c => hn (.inl c)
/-- Whether a key is there. -/
theorem ms_cases {w : World} {b0 sb hd : Nat} {L : List Nd} {luck : Int} (h : Sk w b0 sb hd L luck) (k : Ky) : (∃ n r, L = lo k L ++ n :: r ∧ hi k L = n :: r ∧ n.k = k) ∨ ((∀ m ∈ hi k L, m.k ≠ k) ∧ ∀ m ∈ L, m.k ≠ k) := by
  rcases hi_cases h k with ⟨n, r, hR, hk⟩ | hno
  · refine .inl ⟨n, r, ?_, hR, hk⟩
    have := h.rise.split k
    rwa [hR] at this
  · refine .inr ⟨hno, fun m hm e => ?_⟩
    rw [h.rise.split k] at hm
    rcases List.mem_append.1 hm with hm | hm
    · have := (lo_below hm).2
      rw [e] at this
      exact ltK_irrefl _ this
    · exact hno m hm e
/-- What Erase and the map's delete leave. -/
def DelD (b0 sb mb : Nat) (k : Ky) (L : List Nd) (w w' : World) : Prop := Upd (Bl sb b0 L) w.heap.size w w' ∧ ∃ y L' luck', (∀ ty, (Builtin.delete_ #[48, 30] ty #[.map (some mb), .agg #[.int .i32 k.1, .int .i64 k.2]]).run Tryd.prog w' = .ok (.tuple #[]) y) ∧ MS y b0 sb mb L' luck' ∧ L'.length ≤ L.length + 1 ∧ Upd (Bm sb b0 mb L) w.heap.size w y
theorem ms_erase_has {w : World} {b0 sb mb : Nat} {L r : List Nd} {luck : Int} {n : Nd} (h : MS w b0 sb mb L luck) (k : Ky) (hL : L = lo k L ++ n :: r) (hR : hi k L = n :: r) (hk : n.k = k) :
    Calls Tryd.prog 18 #[PN sb, .agg #[.int .i32 k.1, .int .i64 k.2]] w fun e w' => e = .returned (.int .i64 0) ∧ DelD b0 sb mb k L w w' := by
  refine (erase_has h.sk k rfl hR hk).mono fun e w' ⟨he, hs, hU⟩ => ⟨he, hU, ?_⟩
  have hmw : MapL w' mb L := h.map.keep (hU.block mb h.map.lt fun c => ms_ne h.sk h.map c rfl)
  have hr := h.sk.rise
  have ho := h.sk.ok
  have hlen := congrArg List.length hL
  generalize lo k L = T at *
  subst hL
  obtain ⟨y, hy, hm, hw⟩ := map_del hmw hr ho
  rw [hk] at hy
  obtain ⟨h1, h2⟩ := ms_turn h hs hU hm hw
  exact ⟨y, _, _, hy, h1, by rw [List.length_append, List.length_append, List.length_cons]; omega, h2⟩
theorem ms_erase_no {w : World} {b0 sb mb : Nat} {L : List Nd} {luck : Int} (h : MS w b0 sb mb L luck) (k : Ky) (hk : InK k) (hR : ∀ m ∈ hi k L, m.k ≠ k) (hno : ∀ m ∈ L, m.k ≠ k) :
    Calls Tryd.prog 18 #[PN sb, .agg #[.int .i32 k.1, .int .i64 k.2]] w fun e w' => e = .returned (.int .i64 4) ∧ DelD b0 sb mb k L w w' := by
  refine (erase_none h.sk k rfl rfl hR).mono fun e w' ⟨he, hb⟩ => ?_
  have hU : Upd (Bl sb b0 L) w.heap.size w w' := Upd.of hb
  refine ⟨he, hU, ?_⟩
  obtain ⟨y, hy, hm, hw⟩ := map_del_no (h.map.below hb) h.sk.ok hk hno
  obtain ⟨h1, h2⟩ := ms_turn h (h.sk.below hb) hU hm hw
  exact ⟨y, _, _, hy, h1, by omega, h2⟩
/-- What Put and the map's write leave. -/
def PutD (b0 sb mb : Nat) (c : Pr) (L : List Nd) (w w' : World) : Prop := Upd (Bl sb b0 L) w.heap.size w w' ∧ ∃ y L' luck', (Instr.mapUpdate 48 (.map (some mb)) (.agg #[.int .i32 c.1.1, .int .i64 c.1.2]) (.agg #[.int .i32 c.1.1, .int .i64 c.1.2, .int .i64 c.2.1, .int .i64 c.2.2])).run Tryd.prog w' = .ok () y ∧ MS y b0 sb mb L' luck' ∧ L'.length ≤ L.length + 1 ∧ Upd (Bm sb b0 mb L) w.heap.size w y
theorem ms_put {w : World} {b0 sb mb : Nat} {L : List Nd} {luck : Int} (h : MS w b0 sb mb L luck) (hT : Tab w) (hb : 0 < b0) (c : Pr) (hk : InK c.1) (h3 : -9223372036854775808 ≤ c.2.1 ∧ c.2.1 ≤ 9223372036854775807) (hs0 : 0 ≤ c.2.2) (hs1 : c.2.2 ≤ 1099511627776) (hlen : L.length < 1048576) :
    Calls Tryd.prog 19 #[PN sb, .agg #[.int .i32 c.1.1, .int .i64 c.1.2, .int .i64 c.2.1, .int .i64 c.2.2]] w fun e w' => e = .returned (.int .i64 0) ∧ PutD b0 sb mb c L w w' := by
  obtain ⟨k, v, s⟩ := c
  have hr := h.sk.rise
  have ho := h.sk.ok
  rcases ms_cases h.sk k with ⟨n, r, hL, hR, hnk⟩ | ⟨hR, hno⟩
  · refine (put_has h.sk k v s hs0 hs1 h3 rfl hR hnk).mono fun e w' ⟨he, hs, hU⟩ => ⟨he, hU, ?_⟩
    have hmw : MapL w' mb L := h.map.keep (hU.block mb h.map.lt fun c => ms_ne h.sk h.map c rfl)
    generalize lo k L = T at *
    subst hL
    obtain ⟨y, hy, hm, hw⟩ := map_set (n' := ⟨n.p, n.k, v, s, n.h⟩) hmw hr ho rfl
    rw [hnk] at hy
    obtain ⟨h1, h2⟩ := ms_turn h hs hU hm hw
    exact ⟨y, _, _, hy, h1, by rw [List.length_append, List.length_append, List.length_cons, List.length_cons]; omega, h2⟩
  · refine (put_new h.sk hT hb k v s (okN_of hk.1 hk.2 h3 ⟨hs0, hs1⟩) rfl rfl hR hlen).mono fun e w' ⟨he, ⟨p, _, hs⟩, hU⟩ => ⟨he, hU, ?_⟩
    have hmw : MapL w' mb L := h.map.keep (hU.block mb h.map.lt fun c => ms_ne h.sk h.map c rfl)
    have hsp := hr.split k
    have hll := congrArg List.length hsp
    rw [hsp] at hmw ho hno
    obtain ⟨y, hy, hm, hw⟩ := map_new (n := ⟨p, k, v, s, (hgt (nextX luck)).toNat⟩) hmw ho hk hno
    obtain ⟨h1, h2⟩ := ms_turn h hs hU hm hw
    rw [List.length_append] at hll
    exact ⟨y, _, _, hy, h1, by rw [List.length_append, List.length_cons]; omega, h2⟩
end Go.Proofs.YtalecnfflcjkmaaDoor
