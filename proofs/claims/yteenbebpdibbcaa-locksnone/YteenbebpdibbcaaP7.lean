/- Who is released leaves, claim by claim. -/
import Derived.Test.YteenbebpdibbcaaT4
namespace Go.Proofs.Yteenbebpdibbcaa
open Go.RowKit
set_option maxRecDepth 100000

/-- What a claim's leaving makes of the other claims. -/
theorem lvS_rel (S : Sto) (q : Nat) (c : Cl) (z : Nat) : (S.cs z = none → (lvS S q c).cs z = none) ∧ ∀ d, S.cs z = some d → ∃ ah be, (lvS S q c).cs z = some { d with ah := ah, be := be } ∧ (ah = d.ah ∨ ah = c.ah) := by
  rw [lvS_cs]
  have mdn : ∀ (f : Nat → Option Cl) (b : Nat) (g : Cl → Cl), f z = none → md f b g z = none := fun f b g h => by
    unfold md
    split
    · rename_i e; rw [e] at h; rw [h]; rfl
    · exact h
  have mds : ∀ (f : Nat → Option Cl) (b : Nat) (g : Cl → Cl) (d : Cl), f z = some d → md f b g z = some d ∨ md f b g z = some (g d) := fun f b g d h => by
    unfold md
    split
    · rename_i e; rw [e] at h; rw [h]; exact .inr rfl
    · exact .inl h
  obtain ⟨by', k, ex, hd, ah, be⟩ := c
  cases ah with
  | none =>
    cases be with
    | none => exact ⟨fun h => h, fun d h => ⟨d.ah, d.be, h, .inl rfl⟩⟩
    | some y =>
      refine ⟨fun h => mdn _ _ _ h, fun d h => ?_⟩
      rcases mds _ y (fun c => { c with ah := none }) d h with e | e
      · exact ⟨d.ah, d.be, e, .inl rfl⟩
      · exact ⟨none, d.be, e, .inr rfl⟩
  | some x =>
    cases be with
    | none =>
      refine ⟨fun h => mdn _ _ _ h, fun d h => ?_⟩
      rcases mds _ x (fun c => { c with be := none }) d h with e | e
      · exact ⟨d.ah, d.be, e, .inl rfl⟩
      · exact ⟨d.ah, none, e, .inl rfl⟩
    | some y =>
      refine ⟨fun h => mdn _ _ _ (mdn _ _ _ h), fun d h => ?_⟩
      rcases mds _ x (fun c => { c with be := some y }) d h with e | e
      · rcases mds _ y (fun c => { c with ah := some x }) d e with e' | e'
        · exact ⟨d.ah, d.be, e', .inl rfl⟩
        · exact ⟨some x, d.be, e', .inr rfl⟩
      · rcases mds _ y (fun c => { c with ah := some x }) _ e with e' | e'
        · exact ⟨d.ah, some y, e', .inl rfl⟩
        · exact ⟨some x, some y, e', .inr rfl⟩
theorem lvS_back {S : Sto} {q : Nat} {c : Cl} {z : Nat} {d' : Cl} (h : (lvS S q c).cs z = some d') : ∃ d, S.cs z = some d ∧ d'.by' = d.by' ∧ d'.hd = d.hd ∧ (d'.ah = d.ah ∨ d'.ah = c.ah) := by
  obtain ⟨h1, h2⟩ := lvS_rel S q c z
  cases hz : S.cs z with
  | none => rw [h1 hz] at h; cases h
  | some d =>
    obtain ⟨ah, be, e1, e2⟩ := h2 d hz
    rw [e1] at h
    obtain rfl := Option.some.inj h
    exact ⟨d, rfl, rfl, rfl, e2⟩
theorem lvS_hd (S : Sto) (q : Nat) (c : Cl) (z : Nat) : hdS (lvS S q c) z = hdS S z := by
  obtain ⟨h1, h2⟩ := lvS_rel S q c z
  unfold hdS
  cases hz : S.cs z with
  | none => rw [h1 hz]
  | some d =>
    obtain ⟨ah, be, e1, _⟩ := h2 d hz
    rw [e1]
theorem Lki.same {S S' : Sto} {L : List Am} {pend : Nat → Nat} (h : Lki S L pend) (h1 : S'.ak = S.ak) (h2 : ∀ z, hdS S' z = hdS S z) : Lki S' L pend :=
  ⟨fun a ha => by
    obtain ⟨A, k1, k2, k3, k4, k5⟩ := h.ak a ha
    exact ⟨A, by rw [h1]; exact k1, k2, k3, k4, by rw [k5, cnt_same (S := S) (S' := S') fun x _ => h2 _]⟩, h.n1, h.n2, h.n3, fun b A hb => h.rg b A (by rw [← h1]; exact hb)⟩
theorem Lki.sub {S : Sto} {L L' : List Am} {pend : Nat → Nat} (h : Lki S L pend) (hs : ∀ a ∈ L', a ∈ L) : Lki S L' pend :=
  ⟨fun a ha => h.ak a (hs a ha), fun a ha => h.n1 a (hs a ha), fun a ha a' ha' => h.n2 a (hs a ha) a' (hs a' ha'), fun a ha a' ha' => h.n3 a (hs a ha) a' (hs a' ha'), h.rg⟩
theorem num_len : ∀ {L : List Am} {lo hi : Int}, (L.Pairwise fun a b => a.num < b.num) → (∀ a ∈ L, lo ≤ a.num ∧ a.num < hi) → lo ≤ hi → (L.length : Int) ≤ hi - lo
  | [], lo, hi, _, _, h => by simp; omega
  | a :: r, lo, hi, hp, hb, _ => by
    rw [List.pairwise_cons] at hp
    have h1 := hb a (by simp)
    have := num_len (L := r) (lo := a.num + 1) (hi := hi) hp.2 (fun b hb' => ⟨by have := hp.1 b hb'; omega, (hb b (by simp [hb'])).2⟩) (by omega)
    rw [List.length_cons]
    omega
theorem qF_one {a : Am} (h : (a.cl.map (·.2.1)).Nodup) (k : Ky) : (qF k a).length ≤ 1 := by
  obtain ⟨sp, ak, id, num, cl⟩ := a
  unfold qF
  simp only at h ⊢
  induction cl with
  | nil => simp
  | cons c r ih =>
    rw [List.map_cons, List.nodup_cons] at h
    rw [List.filterMap_cons]
    split
    · exact ih h.2
    · rename_i x hx
      have hk : c.2.1 = k := by
        split at hx
        · assumption
        · cases hx
      have : r.filterMap (fun c => if c.2.1 = k then some (⟨c.1, ak, c.2.2⟩ : Qe) else none) = [] := by
        rw [List.filterMap_eq_nil_iff]
        intro y hy
        rw [if_neg]
        intro e
        exact h.1 (List.mem_map.2 ⟨y, hy, e.trans hk.symm⟩)
      rw [this]
      simp
theorem Qs_len {M : List Am} (h : ∀ a ∈ M, (a.cl.map (·.2.1)).Nodup) (k : Ky) : (Qs M k).length ≤ M.length := by
  induction M with
  | nil => simp [Qs]
  | cons a r ih =>
    rw [show a :: r = [a] ++ r from rfl, Qs_app, Qs_one, List.length_append, List.length_append]
    have := qF_one (h a (by simp)) k
    have := ih fun b hb => h b (by simp [hb])
    simp
    omega
theorem Qs_mid (L1 L2 : List Am) (a : Am) (k : Ky) : Qs (L1 ++ a :: L2) k = Qs L1 k ++ (qF k a ++ Qs L2 k) := by
  unfold Qs
  rw [List.flatMap_append, List.flatMap_cons]
theorem giv_by : ∀ (ps : List Nat) (S : Sto), ∀ b ∈ (giv S ps).2, ∃ p ∈ ps, ∃ c, S.cs p = some c ∧ c.by' = b
  | [], S, b, hb => by simp [giv] at hb
  | p :: r, S, b, hb => by
    cases hp : S.cs p with
    | none =>
      have : giv S (p :: r) = (S, []) := by rw [giv, hp]
      rw [this] at hb
      simp at hb
    | some c =>
      cases hc : c.hd || !mayS S c with
      | true => rw [giv_stop r hp hc] at hb; simp at hb
      | false =>
        rw [giv_go r hp hc] at hb
        rcases List.mem_append.1 hb with h1 | h1
        · refine ⟨p, by simp, c, hp, ?_⟩
          unfold gotS at h1
          cases hA : S.ak c.by' with
          | none => rw [hA] at h1; simp at h1
          | some A =>
            rw [hA] at h1
            have h2 : b ∈ (if A.lacks - 1 = 0 then [c.by'] else []) := h1
            split at h2
            · exact (List.mem_singleton.1 h2).symm
            · simp at h2
        · obtain ⟨x, hx, d, hd, e⟩ := giv_by r (giv1 S p c) b h1
          by_cases ex : x = p
          · subst ex
            have : some { c with hd := true } = some d := (up_same _ _ _).symm.trans hd
            obtain rfl := Option.some.inj this
            exact ⟨x, by simp, c, hp, e⟩
          · exact ⟨x, by simp [hx], d, (up_other S.cs _ ex).symm.trans hd, e⟩
/-- On the way: who is released has left the line, and cl of its claims are left. -/
structure RI (S0 S : Sto) (L1 L2 : List Am) (a : Am) (cl : List (Nat × Lk)) (rd : List Nat) : Prop where
  ai : AI S (L1 ++ L2)
  q : QI S (Qs (L1 ++ { a with cl := cl } :: L2))
  k : Lki S (L1 ++ L2) (fun _ => 0)
  c1 : ∀ p c, S.cs p = some c → ∃ A, S.ak c.by' = some A
  c2 : ∀ p c x, S.cs p = some c → c.ah = some x → ∃ d, S.cs x = some d
  nd : rd.Nodup
  rz : ∀ b, b ∈ rd ↔ Zr S b ∧ ¬ Zr S0 b
  mo : ∀ b, Zr S0 b → Zr S b
  rm : ∀ b ∈ rd, ∃ m ∈ L1 ++ L2, m.ak = b
theorem LI.release {S0 S : Sto} {L1 L2 : List Am} {a : Am} (h : LI S0 (L1 ++ a :: L2) fun _ => 0) (hA : AI S (L1 ++ L2)) (h1 : S.cs = S0.cs) (h2 : S.ln = S0.ln) (h3 : S.Q = S0.Q) (h4 : S.ak = S0.ak) : RI S0 S L1 L2 a a.cl [] := by
  have hz : ∀ b, Zr S b ↔ Zr S0 b := fun b => by unfold Zr; rw [h4]
  refine ⟨hA, ?_, ((h.k.sub ?_).same h4 fun z => by unfold hdS; rw [h1]), fun p c hc => by rw [h4]; exact h.c1 p c (h1 ▸ hc), fun p c x hc hx => by rw [h1] at hc ⊢; exact h.c2 p c x hc hx, by simp, fun b => ⟨fun c => by simp at c, fun c => absurd ((hz b).1 c.1) c.2⟩, fun b c => (hz b).2 c, fun b c => by simp at c⟩
  · exact h.q.of h1 h2 h3
  · intro b hb
    rcases List.mem_append.1 hb with c | c
    · exact List.mem_append_left _ c
    · exact List.mem_append_right _ (List.mem_cons_of_mem _ c)
/-- One claim: what stands in memory ahead of its leaving, and what holds behind it. -/
theorem RI.step {S0 S : Sto} {L1 L2 : List Am} {a : Am} {p : Nat} {k0 : Ky} {e : Bool} {rest : List (Nat × Lk)} {rd : List Nat} (h : RI S0 S L1 L2 a ((p, (k0, e)) :: rest) rd) (hkd : k0 ∉ rest.map (·.2.1)) (hkL : ∀ b ∈ L1 ++ L2, (b.cl.map (·.2.1)).Nodup) (hask : S.asked ≤ 1099511627776) :
    ∃ q n c qs, S.cs p = some c ∧ c.k = k0 ∧ S.Q k0 = some q ∧ S.ln q = some n ∧ (∀ x, c.ah = some x → (∃ d, S.cs x = some d) ∧ x ≠ p) ∧ (∀ y, c.be = some y → (∃ d, S.cs y = some d) ∧ y ≠ p ∧ c.ah ≠ some y) ∧ c.be = qs.head? ∧ BeL (lvS S q c).cs qs ∧ qs.Nodup ∧ GOk (lvS S q c) qs.length ∧ qs.length ≤ 1099511627776 ∧
      RI S0 (giv (lvS S q c) qs).1 L1 L2 a rest (rd ++ (giv (lvS S q c) qs).2) ∧ (giv (lvS S q c) qs).1.asked = S.asked := by
  have hk0 : Qs (L1 ++ { a with cl := (p, (k0, e)) :: rest } :: L2) k0 = Qs L1 k0 ++ ⟨p, a.ak, e⟩ :: Qs L2 k0 := by
    rw [Qs_mid]
    have : qF k0 { a with cl := (p, (k0, e)) :: rest } = [⟨p, a.ak, e⟩] := by
      unfold qF
      rw [List.filterMap_cons, if_pos rfl]
      have : rest.filterMap (fun c => if c.2.1 = k0 then some (⟨c.1, a.ak, c.2.2⟩ : Qe) else none) = [] := by
        rw [List.filterMap_eq_nil_iff]
        intro y hy
        rw [if_neg]
        exact fun c => hkd (List.mem_map.2 ⟨y, hy, c⟩)
      rw [this]
    rw [this]; rfl
  obtain ⟨xs, hxs⟩ : ∃ xs, Qs L1 k0 = xs := ⟨_, rfl⟩
  obtain ⟨ys, hys⟩ : ∃ ys, Qs L2 k0 = ys := ⟨_, rfl⟩
  rw [hxs, hys] at hk0
  have hch := h.q.chn k0
  rw [hk0] at hch
  obtain ⟨hd, hp⟩ := hch.mid
  have hnd := (h.q k0).nd k0
  rw [hk0, List.map_append, List.map_cons, List.nodup_append, List.nodup_cons] at hnd
  obtain ⟨n1, ⟨n2, n2'⟩, n3⟩ := hnd
  obtain ⟨_, q, hQ, hq⟩ : Qs (L1 ++ { a with cl := (p, (k0, e)) :: rest } :: L2) k0 ≠ [] ∧ ∃ q, S.Q k0 = some q ∧ S.ln q = some ⟨nxt (Qs (L1 ++ { a with cl := (p, (k0, e)) :: rest } :: L2) k0) none, lst none (Qs (L1 ++ { a with cl := (p, (k0, e)) :: rest } :: L2) k0)⟩ := by
    rcases (h.q k0).qq k0 with ⟨c, _⟩ | c
    · rw [hk0] at c; simp at c
    · exact c
  have hahm : ∀ z, lst none xs = some z → z ∈ xs.map Qe.p := fun z hz => by
    have hne : xs ≠ [] := fun c => by rw [c] at hz; cases hz
    obtain ⟨u, hu, e⟩ := lst_mem (l := xs) (ah := none) hne
    rw [hz] at e
    exact List.mem_map.2 ⟨u, hu, (Option.some.inj e).symm⟩
  have hbem : ∀ z, nxt ys none = some z → z ∈ ys.map Qe.p := fun z hz => by
    obtain ⟨u, hu, e⟩ := nxt_mem hz
    exact List.mem_map.2 ⟨u, hu, e⟩
  have hin : ∀ z, z ∈ (xs ++ ⟨p, a.ak, e⟩ :: ys).map Qe.p → ∃ d, S.cs z = some d := fun z hz => by
    obtain ⟨u, hu, rfl⟩ := List.mem_map.1 hz
    obtain ⟨_, _, _, hm⟩ := hch.mem u hu
    exact ⟨_, hm⟩
  have hj := leave_qj h.q hk0 hQ (hd := hd)
  have hown := hj.ch0
  have hset : setQ (Qs (L1 ++ { a with cl := (p, (k0, e)) :: rest } :: L2)) k0 (xs ++ ys) k0 = xs ++ ys := if_pos rfl
  rw [hset, Chn.append (by rw [hs_len, List.length_map])] at hown
  have hBe := hown.2.be
  obtain ⟨c, hc⟩ : ∃ c : Cl, (⟨a.ak, k0, e, hd, lst none xs, nxt ys none⟩ : Cl) = c := ⟨_, rfl⟩
  have hcah : c.ah = lst none xs := by rw [← hc]
  have hcbe : c.be = nxt ys none := by rw [← hc]
  have hck : c.k = k0 := by rw [← hc]
  replace hp : S.cs p = some c := by rw [← hc]; exact hp
  have hBe' : BeL (lvS S q c).cs (ys.map Qe.p) := by rw [← hc]; exact hBe
  have hlen : ((ys.map Qe.p).length : Int) ≤ 1099511627776 := by
    rw [List.length_map, ← hys]
    have q1 := Qs_len (M := L2) (fun b hb => hkL b (List.mem_append_right _ hb)) k0
    have q2 := num_len (lo := 0) (hi := S.asked) h.ai.num h.ai.nb h.ai.na
    rw [List.length_append] at q2
    omega
  have hgk : GOk (lvS S q c) (ys.map Qe.p).length := by
    refine ⟨fun z d hz => ?_, fun z d x hz hx => ?_, fun b A hb => ?_⟩
    · obtain ⟨d0, k1, k2, _⟩ := lvS_back hz
      obtain ⟨A, hA⟩ := h.c1 z d0 k1
      rw [k2, (lvS_rest S q c).2.1]
      exact ⟨A, hA⟩
    · obtain ⟨d0, k1, _, _, k4⟩ := lvS_back hz
      have : ∃ d, S.cs x = some d := by
        rcases k4 with k4 | k4
        · exact h.c2 z d0 x k1 (k4 ▸ hx)
        · rw [k4, hcah] at hx
          exact hin x (by rw [List.map_append]; exact List.mem_append_left _ (hahm x hx))
      obtain ⟨d1, hd1⟩ := this
      obtain ⟨_, _, e1, _⟩ := (lvS_rel S q c x).2 d1 hd1
      exact ⟨_, e1⟩
    · rw [(lvS_rest S q c).2.1] at hb
      have := h.k.rg b A hb
      omega
  have hLv : Lki (lvS S q c) (L1 ++ L2) (fun _ => 0) := h.k.same (lvS_rest S q c).2.1 (lvS_hd S q c)
  have hps : ∀ y ∈ ys.map Qe.p, ∃ c', (lvS S q c).cs y = some c' ∧ ∃ b ∈ L1 ++ L2, b.ak = c'.by' ∧ y ∈ b.cl.map (·.1) := fun y hy => by
    obtain ⟨u, hu, rfl⟩ := List.mem_map.1 hy
    obtain ⟨_, _, _, hm⟩ := hch.mem u (List.mem_append_right _ (List.mem_cons_of_mem _ hu))
    obtain ⟨_, _, e1, _⟩ := (lvS_rel S q c u.p).2 _ hm
    rw [← hys] at hu
    obtain ⟨b, hb, x, hx, _, rfl⟩ := Qs_mem.1 hu
    exact ⟨_, e1, b, List.mem_append_right _ hb, rfl, List.mem_map.2 ⟨x, hx, rfl⟩⟩
  obtain ⟨g1, g2, g3, g4⟩ := giv_lk (ys.map Qe.p) (lvS S q c) hLv hps n2'
  obtain ⟨s1, s2, s3, s4, s5, s6, s7⟩ := giv_same (ys.map Qe.p) (lvS S q c)
  obtain ⟨r1, r2, r3, r4, r5, r6⟩ := lvS_rest S q c
  obtain ⟨d1, d2, d3⟩ := giv_dom (ys.map Qe.p) (lvS S q c)
  have hzS : ∀ b, Zr (lvS S q c) b ↔ Zr S b := fun b => by unfold Zr; rw [r2]
  refine ⟨q, _, c, ys.map Qe.p, hp, hck, hQ, hq, fun x hx => ?_, fun y hy => ?_, ?_, hBe', n2', hgk, by omega, ⟨h.ai.same (s1.trans r1) (s5.trans r4) (s6.trans r5) (s4.trans r3) (s7.trans r6), ?_, g1, fun z d hz => ?_, fun z d x hz hx => ?_, ?_, fun b => ?_, fun b hb => g3 b ((hzS b).2 (h.mo b hb)), fun b hb => ?_⟩, s7.trans r6⟩
  · rw [hcah] at hx
    exact ⟨hin x (by rw [List.map_append]; exact List.mem_append_left _ (hahm x hx)), fun e' => n3 x (hahm x hx) p (by simp) e'⟩
  · rw [hcbe] at hy
    have hm := hbem y hy
    refine ⟨hin y (by rw [List.map_append, List.map_cons]; exact List.mem_append_right _ (List.mem_cons_of_mem _ hm)), fun e' => n2 (e' ▸ hm), fun e' => ?_⟩
    rw [hcah] at e'
    exact n3 y (hahm y e') y (List.mem_cons_of_mem _ hm) rfl
  · rw [hcbe]; cases ys <;> rfl
  · have hQI := leave_giv h.q hk0 hQ (hd := hd)
    rw [hc] at hQI
    have : setQ (Qs (L1 ++ { a with cl := (p, (k0, e)) :: rest } :: L2)) k0 (xs ++ ys) = Qs (L1 ++ { a with cl := rest } :: L2) := funext fun k => by
      unfold setQ
      rw [Qs_mid L1 L2 { a with cl := rest } k]
      by_cases hk : k = k0
      · rw [if_pos hk, hk, hxs, hys]
        have : qF k0 { a with cl := rest } = [] := by
          unfold qF
          rw [List.filterMap_eq_nil_iff]
          intro y hy
          rw [if_neg]
          exact fun c => hkd (List.mem_map.2 ⟨y, hy, c⟩)
        rw [this]; rfl
      · rw [if_neg hk, Qs_mid L1 L2 { a with cl := (p, (k0, e)) :: rest } k]
        congr 2
        unfold qF
        rw [List.filterMap_cons, if_neg (fun c => hk c.symm)]
    rw [this] at hQI
    exact hQI
  · obtain ⟨c0, k1, k2, _⟩ := d3 z d hz
    obtain ⟨c1, k3, k4, _⟩ := lvS_back k1
    obtain ⟨A, hA⟩ := h.c1 z c1 k3
    rw [k2, k4]
    obtain ⟨A', hA', _⟩ := d1 c1.by' A (by rw [r2]; exact hA)
    exact ⟨A', hA'⟩
  · obtain ⟨c0, k1, _, k3⟩ := d3 z d hz
    rw [k3] at hx
    obtain ⟨dd, hdd⟩ := hgk.ah z c0 x k1 hx
    obtain ⟨hh, hdd'⟩ := d2 x dd hdd
    exact ⟨_, hdd'⟩
  · refine List.nodup_append.2 ⟨h.nd, g4, fun x hx y hy e' => ?_⟩
    subst e'
    exact ((g2 x).1 hy).2 ((hzS x).2 ((h.rz x).1 hx).1)
  · rw [List.mem_append, h.rz, g2]
    refine ⟨fun o => ?_, fun ⟨z1, z2⟩ => ?_⟩
    · rcases o with ⟨z1, z2⟩ | ⟨z1, z2⟩
      · exact ⟨g3 b ((hzS b).2 z1), z2⟩
      · exact ⟨z1, fun z => z2 ((hzS b).2 (h.mo b z))⟩
    · by_cases z : Zr S b
      · exact .inl ⟨z, z2⟩
      · exact .inr ⟨z1, fun c => z ((hzS b).1 c)⟩
  · rcases List.mem_append.1 hb with hb | hb
    · exact h.rm b hb
    · obtain ⟨y, hy, c', hc', rfl⟩ := giv_by _ _ b hb
      obtain ⟨c2, h2, m, hm, e2, _⟩ := hps y hy
      rw [hc'] at h2
      obtain rfl := Option.some.inj h2
      exact ⟨m, hm, e2⟩
theorem RI.done {S0 S : Sto} {L1 L2 : List Am} {a : Am} {rd : List Nat} (h : RI S0 S L1 L2 a [] rd) (h0 : LI S0 (L1 ++ a :: L2) fun _ => 0) : LI S (L1 ++ L2) fun _ => 0 := by
  have hin : ∀ b ∈ L1 ++ L2, b ∈ L1 ++ a :: L2 := fun b hb => by
    rcases List.mem_append.1 hb with c | c
    · exact List.mem_append_left _ c
    · exact List.mem_append_right _ (List.mem_cons_of_mem _ c)
  refine ⟨h.ai, ?_, h.k, h.c1, h.c2, fun b hb => h0.ok b (hin b hb), fun b hb => h0.kd b (hin b hb)⟩
  have : Qs (L1 ++ { a with cl := [] } :: L2) = Qs (L1 ++ L2) := funext fun k => by
    rw [Qs_mid, Qs_app]; rfl
  rw [← this]
  exact h.q
theorem sorted_sub : ∀ {Lr D : List Am}, (Lr.Pairwise fun a b => a.num < b.num) → (D.Pairwise fun a b => a.num < b.num) → (∀ x ∈ D, x ∈ Lr) → D.Sublist Lr
  | [], D, _, _, h => by
    cases D with
    | nil => exact List.Sublist.refl _
    | cons x t => exact absurd (h x (by simp)) (by simp)
  | m :: r, [], _, _, _ => List.nil_sublist _
  | m :: r, x :: t, hl, hd, h => by
    rw [List.pairwise_cons] at hl hd
    rcases List.mem_cons.1 (h x (by simp)) with e | e
    · subst e
      refine List.Sublist.cons_cons _ (sorted_sub hl.2 hd.2 fun y hy => ?_)
      rcases List.mem_cons.1 (h y (by simp [hy])) with e' | e'
      · have := hd.1 y hy
        rw [e'] at this
        omega
      · exact e'
    · refine List.Sublist.cons _ (sorted_sub hl.2 (List.pairwise_cons.2 hd) fun y hy => ?_)
      have hx := hl.1 x e
      rcases List.mem_cons.1 (h y hy) with e' | e'
      · rcases List.mem_cons.1 hy with e'' | e''
        · rw [e'']; exact e
        · have := hd.1 y e''
          rw [e'] at this
          omega
      · exact e'
end Go.Proofs.Yteenbebpdibbcaa
