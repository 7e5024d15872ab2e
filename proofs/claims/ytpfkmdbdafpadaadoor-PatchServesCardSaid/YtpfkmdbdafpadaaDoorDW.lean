/- The board: its blocks, and disconnect. -/
import Derived.Test.YtpfkmdbdafpadaaDoorDV
import Derived.Test.YtpfkmdbdafpadaaDoorPT
set_option linter.unusedSimpArgs false
set_option linter.unusedVariables false
set_option maxHeartbeats 8000000
set_option maxRecDepth 20000
namespace Go.Abs
theorem OwnD.off {sz c n : Nat} {k : Option Nat} {bs bs' : List (Nat × Blk)} {s : AV} {cs : List AV} (O : OwnD sz c bs s n cs) (f : Off k bs bs') (hne : ∀ x, chOf bs s = some x → some x ≠ k) : OwnD sz c bs' s n cs ∧ chOf bs' s = chOf bs s := by
  obtain ⟨hl', ⟨rfl, rfl⟩ | ⟨id, b, rfl, h2, h3⟩⟩ := O
  · exact ⟨⟨hl', .inl ⟨rfl, rfl⟩⟩, rfl⟩
  · have e := f id b h2 (hne b.ch (by simp only [chOf, h2, Option.map_some]))
    exact ⟨⟨hl', .inr ⟨id, b, rfl, e, h3⟩⟩, by simp only [chOf, h2, e]⟩
theorem OwnD.chSub {sz c n : Nat} {bs bs' : List (Nat × Blk)} {s : AV} {cs : List AV} (O : OwnD sz c bs s n cs) (t : Sub bs bs') : chOf bs' s = chOf bs s := by
  obtain ⟨hl', ⟨rfl, rfl⟩ | ⟨id, b, rfl, h2, h3⟩⟩ := O
  · rfl
  · simp only [chOf, h2, t _ _ h2]
theorem OwnD.chLt {sz c n : Nat} {h : Hp} {s : AV} {cs : List AV} (hk : Hok h) (O : OwnD sz c h.blks s n cs) : ∀ x, chOf h.blks s = some x → x < h.next := fun x hx => by
  obtain ⟨hl', ⟨rfl, rfl⟩ | ⟨id, b, rfl, h2, h3⟩⟩ := O
  · simp [chOf] at hx
  · simp only [chOf, h2, Option.map_some, Option.some.injEq] at hx
    have := hk.get h2
    omega
/-- The board: its own block, and the two slices, in three chains. -/
structure Brd (c : Nat) (bs : List (Nat × Blk)) (bid n m : Nat) (E : List (Int × Int)) (zs : List Int) (sE sZ : AV) : Prop where
  blk : lkB bs bid = some { cells := [.int .i64 n, .int .i64 m, sE, sZ], ch := bid, wr := true }
  lim : c ≤ bid
  e : OwnD 2 c bs sE E.length (pairs E)
  z : OwnD 1 c bs sZ zs.length (ints .i64 zs)
  ae : chOf bs sE ≠ some bid
  az : chOf bs sZ ≠ some bid
  ez : ∀ x, chOf bs sE = some x → chOf bs sZ ≠ some x
theorem Brd.sub {c bid n m : Nat} {bs bs' : List (Nat × Blk)} {E : List (Int × Int)} {zs : List Int} {sE sZ : AV} (B : Brd c bs bid n m E zs sE sZ) (s : Sub bs bs') : Brd c bs' bid n m E zs sE sZ :=
  ⟨s _ _ B.blk, B.lim, B.e.sub s, B.z.sub s, by rw [B.e.chSub s]; exact B.ae, by rw [B.z.chSub s]; exact B.az, by rw [B.e.chSub s, B.z.chSub s]; exact B.ez⟩
theorem lk_leave {h h1 : Hp} {v : AV} (x : Elder h h1) {bid : Nat} {b : Blk} {s : AV} (hk : Hok h) (hb : bid < h.next) (hl : lkB h1.blks bid = some b) (hs : s ∈ b.cells) {id off n sz : Nat} {cap : Option Nat} (e : s = .sl id off n cap sz) : lkB (leave false h v h1).blks id = lkB h1.blks id := by
  by_cases hid : id < h.next
  · exact leave_lk hk x id hid
  · rcases leave_two (v := v) x with e' | ⟨_, new, old, hb', hm, hn, k, e'⟩
    · rw [e']
    · exfalso
      have h2 := leave_lk (v := v) hk x bid hb
      rw [hl, e'] at h2
      have h3 := (HokR.get k h2).2.2
      have := refsOK_iff.1 h3 s hs
      rw [e] at this
      simp only [refOK, Nat.blt_eq] at this
      omega
theorem OwnD.lk {sz c n : Nat} {bs bs' : List (Nat × Blk)} {s : AV} {cs : List AV} (O : OwnD sz c bs s n cs) (hl : ∀ id off n cap sz, s = .sl id off n cap sz → lkB bs' id = lkB bs id) : OwnD sz c bs' s n cs ∧ chOf bs' s = chOf bs s := by
  obtain ⟨hl', ⟨rfl, rfl⟩ | ⟨id, b, rfl, h2, h3⟩⟩ := O
  · exact ⟨⟨hl', .inl ⟨rfl, rfl⟩⟩, rfl⟩
  · have e := hl _ _ _ _ _ rfl
    exact ⟨⟨hl', .inr ⟨id, b, rfl, by rw [e]; exact h2, h3⟩⟩, by simp only [chOf, e]⟩
theorem Brd.leave {c bid n m : Nat} {h h1 : Hp} {v : AV} {E : List (Int × Int)} {zs : List Int} {sE sZ : AV} (B : Brd c h1.blks bid n m E zs sE sZ) (x : Elder h h1) (hk : Hok h) (hb : bid < h.next) : Brd c (Abs.leave false h v h1).blks bid n m E zs sE sZ := by
  obtain ⟨e1, e2⟩ := B.e.lk (bs' := (Abs.leave false h v h1).blks) fun id off n cap sz e => lk_leave x hk hb B.blk (by simp) e
  obtain ⟨z1, z2⟩ := B.z.lk (bs' := (Abs.leave false h v h1).blks) fun id off n cap sz e => lk_leave x hk hb B.blk (by simp) e
  exact ⟨by rw [leave_lk hk x bid hb]; exact B.blk, B.lim, e1, z1, by rw [e2]; exact B.ae, by rw [z2]; exact B.az, by rw [e2, z2]; exact B.ez⟩
/-- A field is set. -/
theorem brd_set {h0 h : Hp} {bid j : Nat} {cells : List AV} {v : AV} (ho : Hok h0) (g : Grown h0 h) (hl : lkB h.blks bid = some { cells := cells, ch := bid, wr := true }) (hlim : h0.next ≤ bid) (hj : j < cells.length) (hv : v.parts = some [v]) (hc : v.isCell = true) (hr : refOK h.next v = true) :
    ∃ h', sStore 1 h v (.ptr bid j) = some (.any, h') ∧ lkB h'.blks bid = some { cells := cells.set j v, ch := bid, wr := true } ∧ Grown h0 h' ∧ Elder h h' ∧ h'.next = h.next ∧ Off (some bid) h.blks h'.blks := by
  obtain ⟨h', e, l1, o, k, n, ls, r⟩ := write_old (off := j) (vs := [v]) (g.ok ho) g.blks (fun x hx => (ho.blk hx).1) hl hlim hlim rfl (by simp; omega) (by simp [hc]) (by simp [refsOK_cons, refsOK_nil, hr])
  refine ⟨h', ?_, ?_, ⟨o, by rw [n]; exact g.next, fun _ => k, by rw [ls]; exact g.loops⟩, write_elder e, n, fun id b hb hne => ?_⟩
  · simp only [sStore, hv, List.length_singleton, Nat.beq_refl, cond_true, e, Option.map_some]
  · rw [l1]
    simp only [splice, List.length_singleton]
    rw [List.set_eq_take_append_cons_drop, if_pos hj]
    simp
  · have hne' : b.ch ≠ bid := fun hh => hne (by rw [hh])
    by_cases hid : id = bid
    · subst hid
      rw [hl] at hb
      cases hb
      exact absurd rfl hne'
    · exact r id b hid hb hne'
theorem delA_elder {sz : Nat} {z : List AV} {h h' : Hp} {id off n i : Nat} (e : delA sz z h id off n i = some h') : Elder h h' := by
  unfold delA at e
  split at e
  · rename_i vs q _
    split at e
    · rename_i h1 e1
      rw [Option.map_eq_some_iff] at e
      obtain ⟨h2, e2, rfl⟩ := e
      have x2 := write_elder e2
      have x1 : Elder h h1 := by
        cases hb : Nat.beq (i + 1) n
        · rw [hb] at e1
          exact Elder.of_en (write_elder e1)
        · rw [hb] at e1
          cases e1
          exact Elder.en
      exact ⟨(x1.trans x2).blks, (x1.trans x2).next⟩
    · cases e
  · cases e
end Go.Abs
