/- What a framed block is, as a list of bytes: plain functions, and that a block says one frame, one place, and that any one bit of it tells. No condition. -/
import Derived.Test.YtockmpnclajjmaaDoorCrcM
namespace Go.Proofs.YtockmpnclajjmaaDoor

/-- The n lowest bytes of x, the lowest first. -/
def leN (x : Nat) : Nat → List Nat
  | 0 => []
  | n + 1 => leN x n ++ [x / 2 ^ (8 * n) % 256]
def leGet : List Nat → Nat
  | [] => 0
  | a :: l => a + 256 * leGet l
def frontN (kind len place seq : Nat) : List Nat := [80, 98, kind, 1] ++ leN len 2 ++ leN place 2 ++ leN seq 8
def backN (pl : List Nat) : List Nat := [0, 0, 0, 0] ++ pl ++ List.replicate (232 - pl.length) 0
def sumN (l : List Nat) : Nat := 4294967295 - crcGo l
def encN (kind seq : Nat) (pl : List Nat) (place : Nat) : List Nat :=
  frontN kind pl.length place seq ++ leN (sumN (frontN kind pl.length place seq ++ [0, 0, 0, 0] ++ backN pl)) 4 ++ backN pl

theorem leN_length (x n : Nat) : (leN x n).length = n := by
  induction n with
  | zero => rfl
  | succ n ih => simp [leN, ih]
theorem leN_lt (x n : Nat) : ∀ y ∈ leN x n, y < 256 := by
  induction n with
  | zero => simp [leN]
  | succ n ih =>
    intro y hy
    simp only [leN, List.mem_append, List.mem_singleton] at hy
    rcases hy with hy | rfl
    · exact ih y hy
    · exact Nat.mod_lt _ (by omega)
theorem leGet_append (a b : List Nat) : leGet (a ++ b) = leGet a + 2 ^ (8 * a.length) * leGet b := by
  induction a with
  | nil => simp [leGet]
  | cons x a ih =>
    simp only [List.cons_append, leGet, ih, List.length_cons]
    rw [show 8 * (a.length + 1) = 8 + 8 * a.length by omega, Nat.pow_add, Nat.mul_add, Nat.mul_assoc]
    omega
theorem leGet_lt (l : List Nat) (hl : ∀ x ∈ l, x < 256) : leGet l < 2 ^ (8 * l.length) := by
  induction l with
  | nil => simp [leGet]
  | cons x l ih =>
    have h1 := hl x (by simp)
    have h2 := ih (fun y hy => hl y (by simp [hy]))
    simp only [leGet, List.length_cons]
    rw [show 8 * (l.length + 1) = 8 + 8 * l.length by omega, Nat.pow_add]
    omega
theorem leGet_leN (x n : Nat) : leGet (leN x n) = x % 2 ^ (8 * n) := by
  induction n with
  | zero => simp [leN, leGet, Nat.mod_one]
  | succ n ih =>
    rw [leN, leGet_append, ih, leN_length]
    simp only [leGet, Nat.mul_zero, Nat.add_zero]
    rw [show 8 * (n + 1) = 8 * n + 8 by omega, Nat.pow_add, Nat.mod_mul]
theorem leN_leGet (l : List Nat) (hl : ∀ x ∈ l, x < 256) : leN (leGet l) l.length = l := by
  have key : ∀ k, k ≤ l.length → leN (leGet l) k = l.take k := by
    intro k
    induction k with
    | zero => intro _; simp [leN]
    | succ k ih =>
      intro hk
      rw [leN, ih (by omega), List.take_succ_eq_append_getElem (by omega)]
      congr 1
      have e : l = l.take k ++ l[k] :: l.drop (k + 1) := by
        rw [List.getElem_cons_drop, List.take_append_drop]
      have h1 := leGet_append (l.take k) (l[k] :: l.drop (k + 1))
      rw [← e] at h1
      have hlen : (l.take k).length = k := by rw [List.length_take]; omega
      have h2 := leGet_lt (l.take k) (fun x hx => hl x (List.mem_of_mem_take hx))
      rw [hlen] at h1 h2
      rw [h1, Nat.add_mul_div_left _ _ (Nat.two_pow_pos _), Nat.div_eq_of_lt h2]
      simp only [leGet, Nat.zero_add]
      have := hl l[k] (List.getElem_mem (by omega))
      congr 1
      omega
  have := key l.length (Nat.le_refl _)
  rwa [List.take_length] at this
theorem leN_inj {x y n : Nat} (hx : x < 2 ^ (8 * n)) (hy : y < 2 ^ (8 * n)) (h : leN x n = leN y n) : x = y := by
  have := congrArg leGet h
  rwa [leGet_leN, leGet_leN, Nat.mod_eq_of_lt hx, Nat.mod_eq_of_lt hy] at this

theorem frontN_length (kind len place seq : Nat) : (frontN kind len place seq).length = 16 := by simp [frontN, leN_length]
theorem backN_length (pl : List Nat) (h : pl.length ≤ 232) : (backN pl).length = 236 := by simp [backN]; omega
theorem encN_length (kind seq : Nat) (pl : List Nat) (place : Nat) (h : pl.length ≤ 232) : (encN kind seq pl place).length = 256 := by
  simp [encN, frontN_length, leN_length, backN_length pl h]
theorem frontN_lt (kind len place seq : Nat) (hk : kind < 256) : ∀ y ∈ frontN kind len place seq, y < 256 := by
  intro y hy
  simp only [frontN, List.mem_append, List.mem_cons, List.not_mem_nil, or_false] at hy
  rcases hy with ((h | h) | h) | h
  · rcases h with rfl | rfl | rfl | rfl <;> omega
  · exact leN_lt _ _ _ h
  · exact leN_lt _ _ _ h
  · exact leN_lt _ _ _ h
theorem backN_lt (pl : List Nat) (hp : ∀ x ∈ pl, x < 256) : ∀ y ∈ backN pl, y < 256 := by
  intro y hy
  simp only [backN, List.mem_append, List.mem_cons, List.not_mem_nil, or_false, List.mem_replicate] at hy
  rcases hy with (h | h) | h
  · rcases h with rfl | rfl | rfl | rfl <;> omega
  · exact hp _ h
  · omega
theorem encN_lt (kind seq : Nat) (pl : List Nat) (place : Nat) (hk : kind < 256) (hp : ∀ x ∈ pl, x < 256) : ∀ y ∈ encN kind seq pl place, y < 256 := by
  intro y hy
  simp only [encN, List.mem_append] at hy
  rcases hy with (h | h) | h
  · exact frontN_lt _ _ _ _ hk _ h
  · exact leN_lt _ _ _ h
  · exact backN_lt _ hp _ h

/-- Where what stands. -/
theorem encN_parts (kind seq : Nat) (pl : List Nat) (place : Nat) :
    encN kind seq pl place = [80, 98, kind, 1] ++ (leN pl.length 2 ++ (leN place 2 ++ (leN seq 8 ++ (leN (sumN (frontN kind pl.length place seq ++ [0, 0, 0, 0] ++ backN pl)) 4 ++ ([0, 0, 0, 0] ++ (pl ++ List.replicate (232 - pl.length) 0)))))) := by
  simp only [encN, frontN, backN, List.append_assoc]
theorem take_app {l a b : List Nat} {n : Nat} (h : a.length = n) (hl : l = a ++ b) : l.take n = a := by subst hl; exact List.take_left' h
theorem drop_app {l a b : List Nat} {n : Nat} (h : a.length = n) (hl : l = a ++ b) : l.drop n = b := by subst hl; exact List.drop_left' h
theorem encN_kind (kind seq : Nat) (pl : List Nat) (place : Nat) : (encN kind seq pl place).getD 2 0 = kind := by
  rw [encN_parts]; rfl
theorem encN_len (kind seq : Nat) (pl : List Nat) (place : Nat) : ((encN kind seq pl place).drop 4).take 2 = leN pl.length 2 := by
  rw [encN_parts]; exact take_app (leN_length _ _) (drop_app rfl rfl)
theorem encN_place (kind seq : Nat) (pl : List Nat) (place : Nat) : ((encN kind seq pl place).drop 6).take 2 = leN place 2 := by
  rw [encN_parts, show (6 : Nat) = 4 + 2 from rfl, ← List.drop_drop, drop_app (n := 4) rfl rfl]
  exact take_app (leN_length _ _) (drop_app (leN_length _ _) rfl)
theorem encN_seq (kind seq : Nat) (pl : List Nat) (place : Nat) : ((encN kind seq pl place).drop 8).take 8 = leN seq 8 := by
  rw [encN_parts, show (8 : Nat) = 4 + (2 + 2) from rfl, ← List.drop_drop, drop_app (n := 4) rfl rfl, ← List.drop_drop, drop_app (n := 2) (leN_length _ _) rfl, drop_app (n := 2) (leN_length _ _) rfl]
  exact take_app (leN_length _ _) rfl
theorem encN_tail (kind seq : Nat) (pl : List Nat) (place : Nat) : (encN kind seq pl place).drop 24 = pl ++ List.replicate (232 - pl.length) 0 := by
  rw [encN_parts, show (24 : Nat) = 4 + (2 + (2 + (8 + (4 + 4)))) from rfl, ← List.drop_drop, drop_app (n := 4) rfl rfl, ← List.drop_drop, drop_app (n := 2) (leN_length _ _) rfl, ← List.drop_drop, drop_app (n := 2) (leN_length _ _) rfl,
    ← List.drop_drop, drop_app (n := 8) (leN_length _ _) rfl, ← List.drop_drop, drop_app (n := 4) (leN_length _ _) rfl, drop_app (n := 4) rfl rfl]
theorem encN_payload (kind seq : Nat) (pl : List Nat) (place : Nat) : ((encN kind seq pl place).drop 24).take pl.length = pl := by
  rw [encN_tail]; exact List.take_left' rfl
/-- A block says one frame at one place. -/
theorem encN_inj {k s : Nat} {p : List Nat} {a k' s' : Nat} {p' : List Nat} {a' : Nat} (hs : s < 2 ^ 64) (hs' : s' < 2 ^ 64) (hp : p.length ≤ 232) (hp' : p'.length ≤ 232) (ha : a < 65536) (ha' : a' < 65536)
    (h : encN k s p a = encN k' s' p' a') : k = k' ∧ s = s' ∧ p = p' ∧ a = a' := by
  have h1 := encN_kind k s p a
  have h2 := encN_len k s p a
  have h3 := encN_place k s p a
  have h4 := encN_seq k s p a
  have h5 := encN_payload k s p a
  rw [h] at h1 h2 h3 h4 h5
  rw [encN_kind] at h1
  rw [encN_len] at h2
  rw [encN_place] at h3
  rw [encN_seq] at h4
  have hl : p'.length = p.length := leN_inj (n := 2) (Nat.lt_of_le_of_lt hp' (by decide)) (Nat.lt_of_le_of_lt hp (by decide)) h2
  rw [← hl, encN_payload] at h5
  exact ⟨h1.symm, leN_inj (n := 8) hs hs' h4.symm, h5.symm, leN_inj (n := 2) ha ha' h3.symm⟩

/-- What the bytes at a place say. -/
def sayN (l : List Nat) : Nat × Nat × List Nat := (l.getD 2 0, leGet ((l.drop 8).take 8), (l.drop 24).take (leGet ((l.drop 4).take 2)))
def fitsN (l : List Nat) (place : Int) : Prop := ∃ a : Nat, place = (a : Int) ∧ a < 2048 ∧ leGet ((l.drop 4).take 2) ≤ 232 ∧ encN (sayN l).1 (sayN l).2.1 (sayN l).2.2 a = l
theorem say_enc (kind seq : Nat) (pl : List Nat) (place : Nat) (hs : seq < 2 ^ 64) (hp : pl.length ≤ 232) : sayN (encN kind seq pl place) = (kind, seq, pl) := by
  have hl : leGet (leN pl.length 2) = pl.length := by rw [leGet_leN, Nat.mod_eq_of_lt (Nat.lt_of_le_of_lt hp (by decide))]
  unfold sayN
  rw [encN_kind, encN_seq, encN_len, hl, encN_payload, leGet_leN, Nat.mod_eq_of_lt hs]
theorem fits_enc (kind seq : Nat) (pl : List Nat) (place : Nat) (hs : seq < 2 ^ 64) (hp : pl.length ≤ 232) (ha : place < 2048) : fitsN (encN kind seq pl place) (place : Int) := by
  have hl : leGet (leN pl.length 2) = pl.length := by rw [leGet_leN, Nat.mod_eq_of_lt (Nat.lt_of_le_of_lt hp (by decide))]
  refine ⟨place, rfl, ha, by rw [encN_len, hl]; exact hp, by rw [say_enc kind seq pl place hs hp]⟩
theorem fits_only (kind seq : Nat) (pl : List Nat) (place : Nat) (hs : seq < 2 ^ 64) (hp : pl.length ≤ 232) (ha : place < 2048) (other : Int) (h : fitsN (encN kind seq pl place) other) : other = (place : Int) := by
  obtain ⟨b, rfl, hb, _, h⟩ := h
  rw [say_enc kind seq pl place hs hp] at h
  have := (encN_inj hs hs hp hp (by omega) (by omega) h).2.2.2
  rw [this]
end Go.Proofs.YtockmpnclajjmaaDoor
