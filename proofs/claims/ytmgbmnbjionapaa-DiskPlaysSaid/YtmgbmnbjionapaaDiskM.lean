/- What a disk does, in plain words of lists. No condition. -/
import Derived.Test.YtmgbmnbjionapaaDiskC
import Derived.Test.YtmgbmnbjionapaaKp
namespace Go.Proofs.Ytmgbmnbjionapaa
open Go.RowKit

/-- A disk: its image, its waiting writes, is it armed, the calls that are left. -/
structure DM where
  img : List Nat
  wts : List (Nat × List Nat)
  arm : Bool
  left : Int
/-- A disk without a call of those that are left. -/
def DM.use (D : DM) : Option DM := if D.arm then (if D.left = 0 then none else some ⟨D.img, D.wts, true, D.left - 1⟩) else some D
/-- The first s sectors of a write land. -/
def landP (s : Nat) (im : List Nat) (x : Nat × List Nat) : List Nat := putB im (x.1 * 256) (x.2.take (s * 32))
/-- The first k writes land, f says how much of each. -/
def landN (f : Nat → Nat) (img : List Nat) (wts : List (Nat × List Nat)) : Nat → List Nat
  | 0 => img
  | k + 1 => landP (f k) (landN f img wts k) (wts.getD k (0, []))
def DM.flush (D : DM) : DM := ⟨landN (fun _ => 8) D.img D.wts D.wts.length, [], D.arm, D.left⟩
/-- How many sectors of write i land in a crash. -/
def crashS (keep : Nat) (tear sectors : Int) (i : Nat) : Nat := if keep.testBit i then 8 else if (i : Int) = tear then (min (max sectors 0) 8).toNat else 0
def DM.crash (D : DM) (keep : Nat) (tear sectors : Int) : DM := ⟨landN (crashS keep tear sectors) D.img D.wts D.wts.length, [], false, 0⟩
def DM.put (D : DM) (n : Nat) (l : List Nat) : DM := ⟨D.img, D.wts ++ [(n, l)], D.arm, D.left⟩
def DM.new (T : Nat) : DM := ⟨List.replicate (T * 256) 0, [], false, 0⟩
def DM.armed (D : DM) (n : Int) : DM := ⟨D.img, D.wts, decide (0 ≤ n), max n 0⟩
structure DM.Ok (D : DM) (T : Nat) : Prop where
  len : D.img.length = T * 256
  one : 1 ≤ T
  top : T ≤ 2048
  few : D.wts.length ≤ 64
  fit : ∀ x ∈ D.wts, x.1 < T
  full : ∀ x ∈ D.wts, x.2.length = 256
  low : 0 ≤ D.left
  high : D.left < 9223372036854775808
theorem landP_length (s : Nat) (hs : s ≤ 8) (im : List Nat) (x : Nat × List Nat) (T : Nat) (hi : im.length = T * 256) (hx : x.1 < T) (hf : x.2.length = 256) : (landP s im x).length = T * 256 := by
  unfold landP
  rw [putB_length, hi]
  rw [List.length_take, hf, hi]
  omega
theorem landN_length (f : Nat → Nat) (hf : ∀ i, f i ≤ 8) (D : DM) (T : Nat) (h : D.Ok T) : ∀ k, k ≤ D.wts.length → (landN f D.img D.wts k).length = T * 256
  | 0, _ => h.len
  | k + 1, hk => by
    have ih := landN_length f hf D T h k (by omega)
    have hm : D.wts.getD k (0, []) ∈ D.wts := by
      rw [List.getD_eq_getElem?_getD, List.getElem?_eq_getElem (by omega)]
      exact List.getElem_mem _
    exact landP_length _ (hf k) _ _ T ih (h.fit _ hm) (h.full _ hm)
theorem crashS_le (keep : Nat) (tear sectors : Int) (i : Nat) : crashS keep tear sectors i ≤ 8 := by
  unfold crashS
  split
  · omega
  · split <;> omega
theorem DM.Ok.flush {D : DM} {T : Nat} (h : D.Ok T) : D.flush.Ok T :=
  ⟨landN_length _ (fun _ => by omega) D T h _ (Nat.le_refl _), h.one, h.top, by simp [DM.flush], by simp [DM.flush], by simp [DM.flush], h.low, h.high⟩
theorem DM.Ok.crash {D : DM} {T : Nat} (h : D.Ok T) (keep : Nat) (tear sectors : Int) : (D.crash keep tear sectors).Ok T :=
  ⟨landN_length _ (crashS_le _ _ _) D T h _ (Nat.le_refl _), h.one, h.top, by simp [DM.crash], by simp [DM.crash], by simp [DM.crash], by simp [DM.crash], by simp [DM.crash]⟩
theorem DM.Ok.put {D : DM} {T : Nat} (h : D.Ok T) (n : Nat) (l : List Nat) (hn : n < T) (hl : l.length = 256) (hw : D.wts.length < 64) : (D.put n l).Ok T := by
  refine ⟨h.len, h.one, h.top, by simp [DM.put]; omega, ?_, ?_, h.low, h.high⟩
  · intro x hx
    simp [DM.put] at hx
    rcases hx with hx | rfl
    · exact h.fit x hx
    · exact hn
  · intro x hx
    simp [DM.put] at hx
    rcases hx with hx | rfl
    · exact h.full x hx
    · exact hl
theorem DM.Ok.use {D D' : DM} {T : Nat} (h : D.Ok T) (hu : D.use = some D') : D'.Ok T := by
  unfold DM.use at hu
  have h1 := h.low
  have h2 := h.high
  split at hu
  · split at hu
    · cases hu
    · injection hu with hu
      subst hu
      exact ⟨h.len, h.one, h.top, h.few, h.fit, h.full, by show 0 ≤ D.left - 1; omega, by show D.left - 1 < _; omega⟩
  · injection hu with hu
    subst hu
    exact h
theorem DM.use_img {D D' : DM} (hu : D.use = some D') : D'.img = D.img ∧ D'.wts = D.wts := by
  unfold DM.use at hu
  split at hu
  · split at hu
    · cases hu
    · injection hu with hu
      subst hu
      exact ⟨rfl, rfl⟩
  · injection hu with hu
    subst hu
    exact ⟨rfl, rfl⟩
theorem DM.use_off {D : DM} (h : D.arm = false) : D.use = some D := by simp [DM.use, h]
theorem DM.Ok.armed {D : DM} {T : Nat} (h : D.Ok T) (n : Int) (hn : n < 9223372036854775808) : (D.armed n).Ok T :=
  ⟨h.len, h.one, h.top, h.few, h.fit, h.full, by simp [DM.armed]; omega, by simp [DM.armed]; omega⟩
theorem DM.Ok.new (T : Nat) (h1 : 1 ≤ T) (h2 : T ≤ 2048) : (DM.new T).Ok T :=
  ⟨by simp [DM.new], h1, h2, by simp [DM.new], by simp [DM.new], by simp [DM.new], by simp [DM.new], by simp [DM.new]⟩
/-- The disk D lies in memory at p; all its blocks are of S. -/
structure Dsk (w : World) (S : Nat → Prop) (p : Nat) (T : Nat) (D : DM) : Prop where
  ex : ∃ gi v, Dk w 0 p gi D.img v D.wts D.arm D.left ∧ S gi ∧ ∀ b, v.ownBlock = some b → S b
  self : S p
  ok : D.Ok T
  inn : ∀ i, S i → i < w.heap.size
section
variable {w w' : World} {S S' : Nat → Prop} {p T : Nat} {D : DM}
theorem Dsk.kept (h : Dsk w S p T D) {R R' : Nat → Prop} (hk : Kp R R' w w') (hd : ∀ i, S i → ¬ R i) : Dsk w' S p T D := by
  obtain ⟨gi, v, hD, h1, h2⟩ := h.ex
  exact ⟨⟨gi, v, ⟨hk.bk hD.box (hd _ h.self), hk.bk hD.img (hd _ h1), hk.own hD.own (fun k hk' => hd _ (h2 k hk')), hD.ne, hD.lo, hD.lo', hD.far, hD.far', hD.full⟩, h1, h2⟩, h.self, h.ok, fun i hi => Nat.lt_of_lt_of_le (h.inn i hi) hk.size⟩
theorem Dsk.bel (h : Dsk w S p T D) (hb : Below w.heap.size w w') : Dsk w' S p T D := by
  exact h.kept (Kp.of_bel hb (fun _ => False)) (fun _ _ hf => hf)
theorem Dsk.alloc (h : Dsk w S p T D) (o : Obj) : Dsk (w.alloc o) S p T D := h.bel ((Below.refl _ _).alloc (Nat.le_refl _) o)
theorem Dsk.drewN (h : Dsk w S p T D) (n : Nat) : Dsk (w.drewN n) S p T D := h.bel (below_drewN (Below.refl _ _) n)
theorem Dsk.lt (h : Dsk w S p T D) : p < w.heap.size := by
  obtain ⟨gi, v, hD, h1, h2⟩ := h.ex
  exact hD.box.lt
end
end Go.Proofs.Ytmgbmnbjionapaa
