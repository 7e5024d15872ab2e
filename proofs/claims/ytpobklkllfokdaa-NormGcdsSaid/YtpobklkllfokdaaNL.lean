/- Divisors from the right: mathematics. -/
import Derived.Test.YtpobklkllfokdaaNH
set_option linter.unusedSimpArgs false
set_option linter.unusedVariables false
set_option maxHeartbeats 1000000
namespace Go.Nm
/-- d divides x from the right. -/
def RD (d x : Qt) : Prop := ∃ q : Qt, q.int ∧ x = q.mul d
theorem Qt.zero_mul {y : Qt} : zq.mul y = zq := by simp [Qt.mul, Qt.sa, Qt.sb, Qt.sc, Qt.sd]
theorem Qt.mul_zero {y : Qt} : y.mul zq = zq := by simp [Qt.mul, Qt.sa, Qt.sb, Qt.sc, Qt.sd]
theorem zq_int : zq.int := by simp [Qt.int]
theorem RD.refl {x : Qt} : RD x x := ⟨⟨2, 0, 0, 0⟩, by simp [Qt.int], Qt.one_mul.symm⟩
theorem RD.zero {d : Qt} : RD d zq := ⟨zq, zq_int, Qt.zero_mul.symm⟩
theorem RD.mul {d x p : Qt} (hd : d.int) (hp : p.int) (h : RD d x) : RD d (p.mul x) := by
  obtain ⟨q, hq, rfl⟩ := h
  exact ⟨p.mul q, (Qt.mul_int hp hq).2.2.2.2, (Qt.mul_assoc hp hq hd).symm⟩
theorem RD.sub {d x y : Qt} (hd : d.int) (h : RD d x) (h' : RD d y) : RD d (x.sub y) := by
  obtain ⟨q, hq, rfl⟩ := h
  obtain ⟨p, hp, rfl⟩ := h'
  exact ⟨q.sub p, Qt.sub_int hq hp, (Qt.sub_mul hq hp hd).symm⟩
def Qt.add (x y : Qt) : Qt := ⟨x.a + y.a, x.b + y.b, x.c + y.c, x.d + y.d⟩
theorem Qt.add_int {x y : Qt} (hx : x.int) (hy : y.int) : (x.add y).int := by
  obtain ⟨h1, h2, h3⟩ := hx
  obtain ⟨g1, g2, g3⟩ := hy
  simp only [Qt.int, Qt.add]
  omega
theorem Qt.add_mul {x y z : Qt} (hx : x.int) (hy : y.int) (hz : z.int) : (x.add y).mul z = (x.mul z).add (y.mul z) := by
  obtain ⟨a1, a2, a3, a4⟩ := Qt.mul_two hx hz
  obtain ⟨b1, b2, b3, b4⟩ := Qt.mul_two hy hz
  obtain ⟨c1, c2, c3, c4⟩ := Qt.mul_two (Qt.add_int hx hy) hz
  generalize (x.add y).mul z = l at *
  generalize x.mul z = m at *
  generalize y.mul z = k at *
  simp only [Qt.sa, Qt.sb, Qt.sc, Qt.sd, Qt.add] at *
  apply Qt.ext' <;> simp only <;> grind
theorem RD.add {d x y : Qt} (hd : d.int) (h : RD d x) (h' : RD d y) : RD d (x.add y) := by
  obtain ⟨q, hq, rfl⟩ := h
  obtain ⟨p, hp, rfl⟩ := h'
  exact ⟨q.add p, Qt.add_int hq hp, (Qt.add_mul hq hp hd).symm⟩
theorem Qt.rem_add {x y : Qt} : x = ((x.quo y).mul y).add (x.rem y) := by
  apply Qt.ext' <;> simp only [Qt.rem, Qt.sub, Qt.add] <;> omega
/-- The algorithm's result divides both, and what divides both divides it. -/
theorem gcdN_rd : ∀ {k : Nat} {x y : Qt}, x.int → y.int → y.nrm.toNat < k → RD (gcdN k x y) x ∧ RD (gcdN k x y) y ∧ (∀ d : Qt, d.int → RD d x → RD d y → RD d (gcdN k x y)) ∧ (gcdN k x y).int
  | 0, x, y, _, _, h => by omega
  | k + 1, x, y, hx, hy, h => by
    simp only [gcdN]
    by_cases h0 : y = zq
    · rw [if_pos h0]
      exact ⟨RD.refl, by rw [h0]; exact RD.zero, fun d _ h _ => h, hx⟩
    · rw [if_neg h0]
      have h1 := Qt.rem_nrm hx hy h0
      have h2 := Qt.nrm_pos hy h0
      have h3 := Qt.nrm_nonneg (x := x.rem y)
      obtain ⟨g1, g2, g3, g4⟩ := gcdN_rd (k := k) hy (Qt.rem_int hx hy) (by omega)
      refine ⟨?_, g1, fun d hd dx dy => g3 d hd dy ?_, g4⟩
      · have := RD.add g4 (RD.mul g4 (Qt.quo_int (x := x) (y := y)) g1) g2
        rwa [← Qt.rem_add] at this
      · exact RD.sub hd dx (RD.mul hd Qt.quo_int dy)
theorem gcd_rd {x y : Qt} (hx : x.int) (hy : y.int) : RD (x.gcd y) x ∧ RD (x.gcd y) y ∧ (∀ d : Qt, d.int → RD d x → RD d y → RD d (x.gcd y)) ∧ (x.gcd y).int := gcdN_rd hx hy (by omega)
/-- The greatest multiple is a multiple by a unit. -/
theorem great_unit {p : Qt} : ∃ u : Qt, u.int ∧ u.nrm = 1 ∧ p.great = u.mul p := by
  unfold Qt.great
  have : ∀ (l : List Qt) (g : Qt), (∀ u ∈ l, u.int ∧ u.nrm = 1) → (∃ u : Qt, u.int ∧ u.nrm = 1 ∧ g = u.mul p) → ∃ u : Qt, u.int ∧ u.nrm = 1 ∧ l.foldl (better p) g = u.mul p := fun l => by
    induction l with
    | nil => intro g _ h; exact h
    | cons v l ih =>
      intro g hl h
      refine ih _ (fun u hu => hl u (by simp [hu])) ?_
      unfold better
      split
      · have := hl v (by simp)
        exact ⟨v, this.1, this.2, rfl⟩
      · exact h
  exact this units24 p (fun u hu => mem_units hu) ⟨⟨2, 0, 0, 0⟩, by simp [Qt.int], by simp [Qt.nrm, Qt.sq], Qt.one_mul.symm⟩
theorem great_ge {p : Qt} : ¬ p.great.lst < p.lst := by
  unfold Qt.great
  have : ∀ (l : List Qt) (g : Qt), ¬ g.lst < p.lst → ¬ (l.foldl (better p) g).lst < p.lst := fun l => by
    induction l with
    | nil => intro g h; exact h
    | cons v l ih =>
      intro g h
      refine ih _ ?_
      unfold better
      split
      · rename_i hc
        have hc' : g.lst < (v.mul p).lst := cmpL_pos.1 hc
        intro h2
        exact h (List.lt_trans hc' h2)
      · exact h
  exact this units24 p (List.lt_irrefl _)
theorem great_int {p : Qt} (hp : p.int) : p.great.int := by
  obtain ⟨u, hu, _, e⟩ := great_unit (p := p)
  rw [e]; exact (Qt.mul_int hu hp).2.2.2.2
theorem great_nrm {p : Qt} (hp : p.int) : p.great.nrm = p.nrm := by
  obtain ⟨u, hu, hn, e⟩ := great_unit (p := p)
  rw [e, Qt.nrm_mul hu hp, hn, Int.one_mul]
theorem great_rd {p x : Qt} (hp : p.int) (h : RD p x) : RD p.great x := by
  obtain ⟨u, hu, hn, e⟩ := great_unit (p := p)
  obtain ⟨q, hq, rfl⟩ := h
  have hc := Qt.conj_int hu
  refine ⟨q.mul u.conj, (Qt.mul_int hq hc).2.2.2.2, ?_⟩
  rw [e, ← Qt.mul_assoc (Qt.mul_int hq hc).2.2.2.2 hu hp, Qt.mul_assoc hq hc hu, Qt.conj_mul_self hu, hn]
  have : q.mul ⟨2 * 1, 0, 0, 0⟩ = q := by
    rw [Qt.mul_real]
    cases q
    simp
  rw [this]
theorem rd_great {d p : Qt} (hd : d.int) (h : RD d p) : RD d p.great := by
  obtain ⟨u, hu, hn, e⟩ := great_unit (p := p)
  rw [e]
  exact RD.mul hd hu h
theorem rnd_exact {k b : Int} (hb : 0 < b) (h2 : b % 2 = 0) : rnd (b * k) b = k := by
  obtain ⟨_, h1, h3⟩ := rnd_near (a := b * k) hb h2
  generalize rnd (b * k) b = r at *
  have e : b * r - b * k = b * (r - k) := by grind
  have h4 : r - k < 1 := by
    rcases Int.lt_or_le (r - k) 1 with h | h
    · exact h
    · have := Int.mul_le_mul_of_nonneg_left h (show 0 ≤ b by omega)
      omega
  have h5 : -1 < r - k := by
    rcases Int.lt_or_le (-1) (r - k) with h | h
    · exact h
    · have := Int.mul_le_mul_of_nonneg_left h (show 0 ≤ b by omega)
      omega
  omega
theorem near1_exact {v n odd : Int} (hn : 1 ≤ n) (h : v % 2 = odd % 2) (ho : odd = 0 ∨ odd = 1) : near1 (n * v) n odd = v := by
  obtain ⟨k, hk⟩ : ∃ k, v = 2 * k + odd := ⟨(v - odd) / 2, by omega⟩
  unfold near1
  have e : n * v - odd * n = 2 * n * k := by rw [hk]; grind
  rw [e, rnd_exact (by omega) (by omega)]
  omega
theorem gap_nonneg {s q : Qt} {n : Int} : 0 ≤ s.gap n q := by
  have h : ∀ m : Int, 0 ≤ sqr m := fun m => by
    unfold sqr
    have := (sq_le (a := m) (M := m.natAbs) (by omega)).1
    exact this
  have h1 := h (s.a - n * q.a)
  have h2 := h (s.b - n * q.b)
  have h3 := h (s.c - n * q.c)
  have h4 := h (s.d - n * q.d)
  unfold Qt.gap
  omega
theorem quo_min {x y : Qt} : (x.mul y.conj).gap y.nrm (x.quo y) ≤ (x.mul y.conj).gap y.nrm ((x.mul y.conj).near y.nrm 0) ∧ (x.mul y.conj).gap y.nrm (x.quo y) ≤ (x.mul y.conj).gap y.nrm ((x.mul y.conj).near y.nrm 1) := by
  unfold Qt.quo
  simp only
  split <;> omega
/-- What is a multiple leaves nothing. -/
theorem rem_zero {d x : Qt} (hd : d.int) (hx : x.int) (h0 : d ≠ zq) (h : RD d x) : x.rem d = zq := by
  obtain ⟨q, hq, rfl⟩ := h
  have hn := Qt.nrm_pos hd h0
  have hc := Qt.conj_int hd
  have hs : (q.mul d).mul d.conj = ⟨d.nrm * q.a, d.nrm * q.b, d.nrm * q.c, d.nrm * q.d⟩ := by
    rw [Qt.mul_assoc hq hd hc, Qt.mul_conj hd, Qt.mul_real]
  have hz : ∀ v : Int, sqr (d.nrm * v - d.nrm * v) = 0 := fun v => by simp [sqr]
  have g0 : ((q.mul d).mul d.conj).gap d.nrm ((q.mul d).quo d) = 0 := by
    have hm := quo_min (x := q.mul d) (y := d)
    have hp := gap_nonneg (s := (q.mul d).mul d.conj) (n := d.nrm) (q := (q.mul d).quo d)
    obtain ⟨p1, p2, p3⟩ := hq
    have key : ∀ odd : Int, (odd = 0 ∨ odd = 1) → q.a % 2 = odd % 2 → ((q.mul d).mul d.conj).gap d.nrm (((q.mul d).mul d.conj).near d.nrm odd) = 0 := fun odd ho hh => by
      rw [hs]
      simp only [Qt.near, Qt.gap]
      rw [near1_exact hn hh ho, near1_exact hn (by omega) ho, near1_exact hn (by omega) ho, near1_exact hn (by omega) ho, hz, hz, hz, hz]
      rfl
    rcases (by omega : q.a % 2 = 0 ∨ q.a % 2 = 1) with hh | hh
    · have := key 0 (.inl rfl) (by omega)
      omega
    · have := key 1 (.inr rfl) (by omega)
      omega
  have hr := Qt.rest_gap (q := (q.mul d).quo d) hx hd Qt.quo_int
  rw [g0] at hr
  by_cases hz : (q.mul d).rem d = zq
  · exact hz
  · exfalso
    have h1 := Qt.nrm_pos (Qt.rem_int hx hd) hz
    have h2 := Int.mul_le_mul_of_nonneg_left hn (show 0 ≤ ((q.mul d).rem d).nrm by omega)
    have h3 : ((q.mul d).rem d).nrm = ((q.mul d).sub (((q.mul d).quo d).mul d)).nrm := rfl
    rw [← h3] at hr
    omega
theorem rd_nrm {d x : Qt} (hd : d.int) (hx : x ≠ zq) (h : RD d x) : d ≠ zq ∧ d.nrm ≤ x.nrm := by
  obtain ⟨q, hq, rfl⟩ := h
  have h0 : d ≠ zq := fun e => hx (by rw [e, Qt.mul_zero])
  have hq0 : q ≠ zq := fun e => hx (by rw [e, Qt.zero_mul])
  refine ⟨h0, ?_⟩
  rw [Qt.nrm_mul hq hd]
  have h1 := Qt.nrm_pos hq hq0
  have h2 := Qt.nrm_pos hd h0
  have := Int.mul_le_mul_of_nonneg_right h1 (show 0 ≤ d.nrm by omega)
  omega
theorem Qt.bd_nrm2 {x : Qt} (hx : x.int) (h : x.nrm ≤ 250000) : x.bd 1000 := by
  have h4 := Qt.sq_four hx
  have ha := sq_le (a := x.a) (M := x.a.natAbs) (by omega)
  have hb := sq_le (a := x.b) (M := x.b.natAbs) (by omega)
  have hc := sq_le (a := x.c) (M := x.c.natAbs) (by omega)
  have hd := sq_le (a := x.d) (M := x.d.natAbs) (by omega)
  have hsq : x.sq = x.a * x.a + x.b * x.b + x.c * x.c + x.d * x.d := rfl
  have key : ∀ a : Int, a * a ≤ 1000000 → -1000 ≤ a ∧ a ≤ 1000 := fun a h => by
    rcases Int.lt_or_le a (-1000) with h1 | h1
    · exfalso
      have := Int.mul_le_mul_of_nonneg_left (show 1001 ≤ -a by omega) (show 0 ≤ -a by omega)
      rw [Int.neg_mul_neg] at this
      omega
    · rcases Int.lt_or_le 1000 a with h2 | h2
      · exfalso
        have := Int.mul_le_mul_of_nonneg_left (show 1001 ≤ a by omega) (show 0 ≤ a by omega)
        omega
      · exact ⟨h1, h2⟩
  exact ⟨key _ (by omega), key _ (by omega), key _ (by omega), key _ (by omega)⟩
end Go.Nm
