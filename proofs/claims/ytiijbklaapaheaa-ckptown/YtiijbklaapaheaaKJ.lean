/- Several texts as one. -/
import Derived.Test.YtiijbklaapaheaaKI

/- More on memory: appending what is seen to a row of one's own; a row of one element. -/
namespace Go.Proofs.Ytiijbklaapaheaa
open Go.RowKit
set_option maxRecDepth 100000

theorem grownBy_refl (w : World) (r : Option Nat) : w.grownBy w r := ⟨rfl, rfl, rfl, Nat.le_refl _, fun _ _ _ => rfl⟩

/-- append(s, x...) where s is the call's own and x is whatever slice of integers that is seen, nil too. -/
theorem wpList_append_sees {P : Program} {w : World} {ops : Array Oper} {rest : List Oper} {o : Oper} {a : Act} {Q : Exit → Act → World → Prop} (hgd : o.guard = none) (s x : Operand) (t : TypeId)
    (ho : o.op = .call { callee := .builtin .append, args := #[s, x], argTypes := #[t, t] })
    (base : Nat) (e : TypeId) (i : TypeInfo) (z : Value) (bytes : Nat) (ht : P.underlying t = some (.slice e)) (hi : P.info? e = some i) (hz : i.zero = some z)
    (hsize : i.size = 1) (hby : i.bytes = bytes) (hzs : z.cells.size = 1)
    (v : Value) (n : Nat) (xs : List Value) (hs : a.eval s = v) (hown : w.ownsRow base e 1 v n xs)
    (k : IntKind) (sv : Value) (zs : List Int) (hx : a.eval x = sv) (hsee : Sees w k sv zs)
    (h63 : n + zs.length ≤ maxLen) (hbytes : (n + zs.length) * bytes ≤ 140737488355328) (hbase : base ≤ w.heap.size)
    (h : ∀ v' w', w'.ownsRow base e 1 v' (n + zs.length) (xs ++ ints k zs) → w.grownBy w' v.ownBlock → wpList P ops Q rest (a.put o.dst v') w') : wpList P ops Q (o :: rest) a w := by
  obtain ⟨ao, cap, rfl, hl, hnil, hc⟩ := hsee
  cases ao with
  | none =>
    obtain rfl := hnil rfl
    obtain rfl : zs = [] := List.length_eq_zero_iff.1 (by omega)
    refine wpList_append_own_none hgd s x t ho base e i 1 ht hi v n xs hs hown hx ?_
    exact h v w (by simpa [ints] using hown) (grownBy_refl _ _)
  | some ad =>
    refine wpList_append_own w hgd s x t ho base e i z 1 bytes ht hi hz hsize hby hzs (by decide) v n xs hs hown ad zs.length cap (ints k zs) hx (by rw [ints_length]; omega) (fun j u hu => ?_) (ints_cell _ _) h63 hbytes hbase ?_
    · obtain ⟨hj, rfl⟩ := ints_get hu
      exact hc ad rfl j hj
    · intro v' w' ho' hg _
      exact h v' w' ho' hg

/-- A slice literal's row. -/
theorem own_new (w : World) (k : IntKind) (zs : List Int) (e : TypeId) (base n : Nat) (hn : n = zs.length) (hb : base ≤ w.heap.size) (hm : n ≤ maxLen) :
    (w.alloc (.cells (ints k zs).toArray e)).ownsRow base e 1 (.slice (some ⟨w.heap.size, 0, none⟩) n n) n (ints k zs) := by
  subst hn
  refine ⟨by rw [ints_length]; omega, .inr ⟨w.heap.size, zs.length, _, rfl, hb, heap_alloc_new w _, Nat.le_refl _, hm, by simp [ints], ?_⟩⟩
  simp only [Nat.mul_one]
  exact List.take_of_length_le (by rw [ints_length]; omega)

theorem own_drew {w : World} {base e size : Nat} {v : Value} {n : Nat} {xs : List Value} (h : w.ownsRow base e size v n xs) : w.drew.ownsRow base e size v n xs := h

/-- What is owned is still owned where nothing below the heap's end has turned. -/
theorem own_below {w w' : World} {base e size : Nat} {v : Value} {n : Nat} {xs : List Value} (h : w.ownsRow base e size v n xs) (hb : Below w.heap.size w w') : w'.ownsRow base e size v n xs := by
  refine ⟨h.1, ?_⟩
  rcases h.2 with hn | ⟨g, cap, cur, hv, hg, hh, r⟩
  · exact .inl hn
  · exact .inr ⟨g, cap, cur, hv, hg, (hb.block g (Array.getElem?_eq_some_iff.1 hh).1).trans hh, r⟩

theorem own_shape {w : World} {base e : Nat} {v : Value} {n : Nat} {xs : List Value} (h : w.ownsRow base e 1 v n xs) : ∃ ao cap, v = .slice ao n cap := by
  rcases h.2 with ⟨rfl, rfl⟩ | ⟨g, cap, cur, rfl, _⟩
  · exact ⟨none, 0, rfl⟩
  · exact ⟨_, cap, rfl⟩

end Go.Proofs.Ytiijbklaapaheaa

/- Contracts of Blob and bytes.Equal. -/
namespace Go.Proofs.Ytiijbklaapaheaa
open Go.RowKit
set_option maxRecDepth 100000

theorem str_beq {xs ys : List Int} (hx : Byt xs) (hy : Byt ys) : ((strOf xs).toList == (strOf ys).toList) = decide (xs = ys) := by
  rw [ByteArray.toList_eq, ByteArray.toList_eq, Bool.eq_iff_iff]
  simp only [beq_iff_eq, decide_eq_true_eq]
  constructor
  · intro h
    refine strOf_inj hx hy ?_
    have : (strOf xs).data = (strOf ys).data := Array.toList_inj.1 h
    cases hs : strOf xs
    cases hs' : strOf ys
    rw [hs, hs'] at this
    simp_all
  · rintro rfl; rfl

set_option maxHeartbeats 400000 in
theorem equal_any (av bv : Value) (xs ys : List Int) (w : World) (ha : Sees w .u8 av xs) (hb : Sees w .u8 bv ys) (hx : Byt xs) (hy : Byt ys) :
    Calls Try.prog 13 #[av, bv] w fun e w' => e = .returned (.bool (decide (xs = ys))) ∧ w = w' := by
  have h1 := run_conv_sees (P := Try.prog) w 22 9 5 av xs Try.underlying22 Try.underlying5 Try.underlying9 ha hx
  have h2 := run_conv_sees (P := Try.prog) w 22 9 5 bv ys Try.underlying22 Try.underlying5 Try.underlying9 hb hy
  clear ha hb
  go_enter Try.func13, Try.ntmps13
  go_wp2
  go_ret
  exact ⟨by rw [← str_beq hx hy]; rfl, rfl⟩

set_option maxHeartbeats 400000 in
theorem check_nil (w : World) : Calls Try.prog 84 #[.slice none 0 0] w fun e w' => e = .returned (.int .u64 14695981039346656037) ∧ w = w' := by
  go_enter Try.func84, Try.ntmps84
  go_wp2
  refine wp_loop_rounds 1 ?_
  rw [rounds_succ]
  go_wp2
  go_ret
  exact ⟨rfl, rfl⟩

theorem sees_one (w : World) (x : Int) : Sees (w.alloc (.cells #[.int .i64 x] 2)) .i64 (.slice (some ⟨w.heap.size, 0, none⟩) 1 1) [x] := sees_new w .i64 [x] 2 1 rfl
theorem apart_one (w : World) (x : Int) (base : Nat) : ∀ a c, (Value.slice (some ⟨w.heap.size, 0, none⟩) 1 1) = .slice (some a) [x].length c → ∀ t, t < [x].length → Apart (w.alloc (.cells #[.int .i64 x] 2)) base (a.add t) := by
  intro a c e t ht
  simp only [Value.slice.injEq, Option.some.injEq] at e
  obtain ⟨rfl, _, _⟩ := e
  obtain rfl : t = 0 := by simp at ht; omega
  exact .inr ⟨_, _, heap_alloc_new w _⟩
theorem I64_one (x : Int) (h1 : -9223372036854775808 ≤ x) (h2 : x ≤ 9223372036854775807) : I64 [x] := by
  intro t ht
  obtain rfl : t = 0 := by simp at ht; omega
  exact ⟨h1, h2⟩

theorem copied_int (v : Value) (zs : List Int) (m : Int) (w : World) (hs : Sees w .u8 v zs) (h0 : 0 ≤ m) (hn : zs.length + m ≤ 140737488355328) :
    Calls Try.prog 69 #[v, .int .i64 m] w fun e w' => ∃ v', e = .returned v' ∧ w'.ownsRow w.heap.size 5 1 v' zs.length (ints .u8 zs) ∧ Below w.heap.size w w' := by
  obtain ⟨k, rfl⟩ := Int.eq_ofNat_of_zero_le h0
  exact copied_any v zs k w hs (by omega)

set_option maxHeartbeats 800000 in
/-- Blob: bytes that are seen and, behind them, others as a blob, in new memory. -/
theorem blob_any (bv dv : Value) (zs ds : List Int) (w : World) (hs : Sees w .u8 bv zs) (hd : Sees w .u8 dv ds) (hn : zs.length + ds.length + 64 ≤ 140737488355328) :
    Calls Try.prog 59 #[bv, dv] w fun e w' => ∃ v', e = .returned v' ∧ w'.ownsRow w.heap.size 5 1 v' (zs.length + sizeL [(ds.length : Int)] + ds.length) (ints .u8 (zs ++ putL [(ds.length : Int)] ++ ds)) ∧ Below w.heap.size w w' := by
  obtain ⟨i0, hi, hz0, hz1, hz2⟩ := info_parts Try.info5
  have hI := I64_one (ds.length : Int) (by omega) (by omega)
  have h9 := sizeL_le [(ds.length : Int)]
  simp only [List.length_singleton] at h9
  have hd0 := hd
  obtain ⟨ao, cap, rfl, hlc, hnil, hc⟩ := hd0
  go_enter Try.func59, Try.ntmps59
  have hso := sees_one w ds.length
  have hsw : Sees (w.alloc (.cells #[.int .i64 (ds.length : Int)] 2)) .u8 bv zs := hs.below ((Below.refl _ _).alloc (Nat.le_refl _) _)
  go_wp2_with (go_at_call 86; refine (size_sees _ [(ds.length : Int)] _ hso (by simp) hI).mono ?_; rintro e w' ⟨rfl, rfl⟩)
  go_wp2_with (go_at_call 69; refine (copied_int bv zs _ _ hsw (by omega) (by omega)).mono ?_; rintro e w1 ⟨v1, rfl, ho1, hb1⟩)
  have hsz1 : w.heap.size + 1 ≤ w1.heap.size := by have := hb1.size; simp at this; omega
  have hso2 := sees_one w1 ds.length
  simp only [World.size_alloc] at ho1 hb1
  have hbw1 : Below w.heap.size w w1 := ((Below.refl _ _).alloc (Nat.le_refl _) _).trans (hb1.mono (by omega))
  clear hso hsw hs hd
  cases ao with
  | none =>
    obtain rfl := hnil rfl
    obtain rfl : ds = [] := List.length_eq_zero_iff.1 (by omega)
    clear hc hnil hlc
    go_wp2_with (first
      | (go_at_call 85; refine (putNums_sees (w.heap.size + 1) v1 _ _ zs [(([] : List Int).length : Int)] _ hso2 (by simp) hI (by omega) (apart_one w1 _ _) (ho1.alloc _) (by simp; omega)).mono ?_; rintro e w2 ⟨v2, rfl, ho2, hk2⟩)
      | (at_builtin; refine wpList_append_own_none rfl _ _ 22 rfl (w.heap.size + 1) 5 i0 1 Try.underlying22 hi _ _ _ rfl ho2 rfl ?_))
    have hbw2 : Below w.heap.size w w2 := (hbw1.alloc (by omega) _).trans (hk2.below.mono (by omega))
    go_ret
    exact ⟨_, rfl, own_mono (by simpa using ho2) (by omega), hbw2⟩
  | some a =>
    go_wp2_with (first
      | (go_at_call 85; refine (putNums_sees (w.heap.size + 1) v1 _ _ zs [(ds.length : Int)] _ hso2 (by simp) hI (by omega) (apart_one w1 _ _) (ho1.alloc _) (by simp; omega)).mono ?_; rintro e w2 ⟨v2, rfl, ho2, hk2⟩)
      | (at_builtin; refine wpList_append_own _ rfl _ _ 22 rfl (w.heap.size + 1) 5 i0 (.int .u8 0) 1 1 Try.underlying22 hi hz0 hz1 hz2 rfl (by decide) _ _ _ rfl ho2 a ds.length cap (ints .u8 ds) rfl ?c0 ?hnews (ints_cell _ _) ?c3 ?c4 ?c5 ?_))
    case c0 => rw [ints_length]; omega
    case hnews =>
      have hbw2 : Below w.heap.size w w2 := (hbw1.alloc (by omega) _).trans (hk2.below.mono (by omega))
      intro j u hu
      obtain ⟨hj, rfl⟩ := ints_get hu
      have := hc a rfl j hj
      exact (hbw2.cell (World.block_lt_of_cell? w _ this)).trans this
    case c3 => unfold maxLen; omega
    case c4 => omega
    case c5 => have := hk2.below.size; simp at this; omega
    intro v' w3 hown' hgrow _
    have hbw2 : Below w.heap.size w w2 := (hbw1.alloc (by omega) _).trans (hk2.below.mono (by omega))
    have hsz3 : w.heap.size ≤ w2.heap.size := hbw2.size
    go_wp2
    go_ret
    exact ⟨_, rfl, own_mono (by rw [ints_append]; exact hown') (by omega), hbw2.grown hgrow (by omega) (own_block_le (own_mono ho2 (by omega)))⟩

end Go.Proofs.Ytiijbklaapaheaa

/- Contract of bytes.Clone. -/
namespace Go.Proofs.Ytiijbklaapaheaa
open Go.RowKit
set_option maxRecDepth 100000

set_option maxHeartbeats 400000 in
theorem clone_any (bv : Value) (zs : List Int) (w : World) (hs : Sees w .u8 bv zs) (hm : zs.length ≤ 140737488355328) :
    Calls Try.prog 26 #[bv] w fun e w' => ∃ x, e = .returned x ∧ w'.ownsRow w.heap.size 5 1 x zs.length (ints .u8 zs) ∧ Below w.heap.size w w' := by
  obtain ⟨i0, hi, hz0, hz1, hz2⟩ := info_parts Try.info5
  have HS := hide hs
  have hE := fun (w : World) a n c => Lib.run_eql_slice_nil (P := Try.prog) w 22 5 a n c 0 0 Try.underlying22
  obtain ⟨ao, cap, rfl, hlc, hnil, hc⟩ := hs
  clear hc
  cases ao with
  | none =>
    obtain rfl := hnil rfl
    obtain rfl : zs = [] := List.length_eq_zero_iff.1 (by omega)
    go_enter Try.func26, Try.ntmps26
    go_wp2
    go_ret
    exact ⟨_, rfl, World.ownsRow_nil _ _ _ _, Below.refl _ _⟩
  | some a =>
    go_enter Try.func26, Try.ntmps26
    go_wp2_with (at_builtin; refine wpList_append_sees rfl _ _ 22 rfl w.heap.size 5 i0 (.int .u8 0) 1 Try.underlying22 hi hz0 hz1 hz2 rfl _ 0 [] rfl (own_new w .u8 [] 5 w.heap.size 0 rfl (Nat.le_refl _) (by decide)) .u8 _ zs rfl ?d0 ?d1 ?d2 ?d3 ?_)
    case d0 => exact (unhide HS).below ((Below.refl _ _).alloc (Nat.le_refl _) _)
    case d1 => unfold maxLen; omega
    case d2 => omega
    case d3 => simp
    intro x w1 ho hg
    go_wp2
    go_ret
    refine ⟨x, rfl, by simpa using ho, ((Below.refl _ _).alloc (Nat.le_refl _) _).grown hg (by simp) ?_⟩
    intro k hk
    simp [Value.ownBlock] at hk
    omega

end Go.Proofs.Ytiijbklaapaheaa

/- Contracts of Check, and of the document's own Check. -/
namespace Go.Proofs.Ytiijbklaapaheaa
open Go.RowKit
set_option maxRecDepth 100000

/-- One step of the check. -/
def fstep (h x : Int) : Int := IntKind.u64.wrap (bits .xor .u64 h x * 1099511628211)
/-- The check of bytes, from h on. -/
def chkF : Int → List Int → Int
  | h, [] => h
  | h, x :: r => chkF (fstep h x) r
theorem chkF_append (h : Int) (a b : List Int) : chkF h (a ++ b) = chkF (chkF h a) b := by
  induction a generalizing h with
  | nil => rfl
  | cons x r ih => exact ih _
theorem chkF_snoc (h : Int) (l : List Int) (k : Nat) (hk : k < l.length) : chkF h (l.take (k + 1)) = fstep (chkF h (l.take k)) (l.getD k 0) := by
  rw [take_snoc l k hk, chkF_append]; rfl
theorem fstep_bounds (h x : Int) : 0 ≤ fstep h x ∧ fstep h x ≤ 18446744073709551615 := by
  unfold fstep; rw [IntKind.wrap_u64]; omega
theorem chkF_bounds (h : Int) (l : List Int) (h0 : 0 ≤ h) (h1 : h ≤ 18446744073709551615) : 0 ≤ chkF h l ∧ chkF h l ≤ 18446744073709551615 := by
  induction l generalizing h with
  | nil => exact ⟨h0, h1⟩
  | cons x r ih => exact ih _ (fstep_bounds h x).1 (fstep_bounds h x).2
/-- Where the check begins. -/
def c0 : Int := 14695981039346656037
theorem c0_bounds : 0 ≤ c0 ∧ c0 ≤ 18446744073709551615 := by unfold c0; omega

set_option maxHeartbeats 800000 in
theorem refCheck_any (bv : Value) (zs : List Int) (w : World) (hs : Sees w .u8 bv zs) (hby : Byt zs) (hm : zs.length ≤ 140737488355328) :
    Calls Try.prog 62 #[bv] w fun e w' => e = .returned (.int .u64 (chkF c0 zs)) ∧ w = w' := by
  obtain ⟨ao, cap, rfl, hlc, hnil, hc⟩ := hs
  go_enter Try.func62, Try.ntmps62
  go_wp2
  go_loop [3, 4] (fun h i => ∃ k : Nat, k ≤ zs.length ∧ i = .int .i64 k ∧ h = .int .u64 (chkF c0 (zs.take k))) (fun _ i => zs.length - (intOf i).toNat)
  case atStart => exact ⟨0, Nat.zero_le _, rfl, rfl⟩
  case round =>
    obtain ⟨k, hk, rfl, rfl⟩ := hrel
    by_cases hlt : k < zs.length
    · cases ao with
      | none => have := hnil rfl; omega
      | some a =>
        have hcj := hc a rfl k hlt
        obtain ⟨hg1, hg2⟩ := hby.get k
        have hst := hide (chkF_snoc c0 zs k hlt)
        obtain ⟨hb1, hb2⟩ := chkF_bounds c0 (zs.take k) c0_bounds.1 c0_bounds.2
        clear hc hnil
        generalize zs.getD k 0 = x at *
        generalize hh : chkF c0 (zs.take k) = h at *
        have HH := hide hh
        clear hh
        go_wp2
        go_round
        case rel => exact ⟨k + 1, by omega, by go_num, by rw [hst.out]; rfl⟩
        case measure => simp [intOf]; omega
    · go_wp2
      go_ret
      exact ⟨ret_int (by rw [List.take_of_length_le (by omega)]), rfl⟩

/-- A list of lists of bytes: the slices vs lie under lv, and each of them shows its bytes. -/
def SeesV (w : World) (lv : Value) (vs : List Value) (ls : List (List Int)) : Prop :=
  (∃ ao cap, lv = .slice ao vs.length cap ∧ vs.length ≤ cap ∧ (ao = none → cap = 0) ∧ ∀ a, ao = some a → ∀ t, t < vs.length → w.cell? (a.add t) = some (vs.getD t .nilIface)) ∧
  ls.length = vs.length ∧ ∀ t, t < vs.length → Sees w .u8 (vs.getD t .nilIface) (ls.getD t []) ∧ Byt (ls.getD t []) ∧ (ls.getD t []).length ≤ 140737488355328

theorem SeesV.below {w w' : World} {lv : Value} {vs : List Value} {ls : List (List Int)} (h : SeesV w lv vs ls) (hb : Below w.heap.size w w') : SeesV w' lv vs ls := by
  obtain ⟨⟨ao, cap, hv, hl, hn, ha⟩, h2, h3⟩ := h
  exact ⟨⟨ao, cap, hv, hl, hn, fun a e t ht => (hb.cell (World.block_lt_of_cell? w _ (ha a e t ht))).trans (ha a e t ht)⟩, h2, fun t ht => ⟨(h3 t ht).1.below hb, (h3 t ht).2⟩⟩

theorem flat_snoc (ls : List (List Int)) (k : Nat) (h : k < ls.length) : (ls.take (k + 1)).flatten = (ls.take k).flatten ++ ls.getD k [] := by
  rw [List.take_succ_eq_append_getElem h, List.flatten_append]
  simp only [List.flatten_cons, List.flatten_nil, List.append_nil]
  congr 1
  simp [List.getD, h]

set_option maxHeartbeats 1000000 in
/-- Check. -/
theorem check_any (lv : Value) (vs : List Value) (ls : List (List Int)) (w : World) (hs : SeesV w lv vs ls) (hm : vs.length ≤ 140737488355328) :
    Calls Try.prog 84 #[lv] w fun e w' => e = .returned (.int .u64 (chkF c0 ls.flatten)) ∧ w = w' := by
  obtain ⟨⟨ao, cap, rfl, hlc, hnil, hc⟩, hls, hall⟩ := hs
  have HLS := hide hls
  clear hls
  go_enter Try.func84, Try.ntmps84
  go_wp2
  go_loop [3, 10] (fun h i => ∃ k : Nat, k ≤ vs.length ∧ i = .int .i64 k ∧ h = .int .u64 (chkF c0 (ls.take k).flatten)) (fun _ i => vs.length - (intOf i).toNat)
  case atStart => exact ⟨0, Nat.zero_le _, rfl, rfl⟩
  case round =>
    obtain ⟨k, hk, rfl, rfl⟩ := hrel
    by_cases hlt : k < vs.length
    · cases ao with
      | none => have := hnil rfl; omega
      | some a =>
        have hcj := hc a rfl k hlt
        obtain ⟨hsv, hbv, hlv⟩ := hall k hlt
        have hfl := flat_snoc ls k (by rw [HLS.out]; exact hlt)
        have hst := chkF_append c0 (ls.take k).flatten (ls.getD k [])
        rw [← hfl] at hst
        obtain ⟨hb1, hb2⟩ := chkF_bounds c0 (ls.take k).flatten c0_bounds.1 c0_bounds.2
        clear hc hnil hall hfl
        generalize ls.getD k [] = zs at *
        generalize vs.getD k .nilIface = v at *
        generalize chkF c0 (ls.take k).flatten = h at *
        obtain ⟨ao2, cap2, rfl, hlc2, hnil2, hc2⟩ := hsv
        have HST := hide hst
        clear hst
        go_wp2
        go_loop [3, 16] (fun h' i => ∃ j : Nat, j ≤ zs.length ∧ i = .int .i64 j ∧ h' = .int .u64 (chkF h (zs.take j))) (fun _ i => zs.length - (intOf i).toNat)
        case atStart => exact ⟨0, Nat.zero_le _, rfl, rfl⟩
        case round =>
          obtain ⟨j, hj, rfl, rfl⟩ := hrel
          by_cases hlt2 : j < zs.length
          · cases ao2 with
            | none => have := hnil2 rfl; omega
            | some a2 =>
              have hcj2 := hc2 a2 rfl j hlt2
              obtain ⟨hg1, hg2⟩ := hbv.get j
              have hst2 := hide (chkF_snoc h zs j hlt2)
              obtain ⟨hd1, hd2⟩ := chkF_bounds h (zs.take j) hb1 hb2
              clear hc2 hnil2
              generalize zs.getD j 0 = x at *
              generalize hh : chkF h (zs.take j) = h' at *
              have HH := hide hh
              clear hh
              go_wp2
              go_round
              case rel => exact ⟨j + 1, by omega, by go_num, by rw [hst2.out]; rfl⟩
              case measure => simp [intOf]; omega
          · obtain rfl : j = zs.length := by omega
            rw [List.take_length]
            go_wp2
            go_round
            case rel => exact ⟨k + 1, by omega, by go_num, by rw [HST.out]⟩
            case measure => simp [intOf]; omega
    · go_wp2
      go_ret
      exact ⟨ret_int (by rw [List.take_of_length_le (by rw [HLS.out]; omega)]), rfl⟩

/-- A list of one list. -/
theorem seesV_one (w : World) (v : Value) (zs : List Int) (hs : Sees w .u8 v zs) (hb : Byt zs) (hm : zs.length ≤ 140737488355328) : SeesV (w.alloc (.cells #[v] 22)) (.slice (some ⟨w.heap.size, 0, none⟩) 1 1) [v] [zs] := by
  refine ⟨⟨_, 1, rfl, Nat.le_refl _, (fun h => by cases h), fun a h t ht => ?_⟩, rfl, fun t ht => ?_⟩
  · obtain rfl := Option.some.inj h
    obtain rfl : t = 0 := by simp at ht; omega
    exact cell_of_one (heap_alloc_new w _)
  · obtain rfl : t = 0 := by simp at ht; omega
    exact ⟨hs.below ((Below.refl _ _).alloc (Nat.le_refl _) _), hb, hm⟩

theorem check_one (w : World) (v : Value) (zs : List Int) (hs : Sees w .u8 v zs) (hb : Byt zs) (hm : zs.length ≤ 140737488355328) :
    Calls Try.prog 84 #[.slice (some ⟨w.heap.size, 0, none⟩) 1 1] (w.alloc (.cells #[v] 22)) fun e w' => e = .returned (.int .u64 (chkF c0 zs)) ∧ w.alloc (.cells #[v] 22) = w' := by
  have := check_any _ [v] [zs] _ (seesV_one w v zs hs hb hm) (by simp)
  simpa using this

end Go.Proofs.Ytiijbklaapaheaa
