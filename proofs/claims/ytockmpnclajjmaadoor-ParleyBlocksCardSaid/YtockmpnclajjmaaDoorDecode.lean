/- The walk of reading a framed block. Conditions: the bytes lie in memory; the table of the cyclic sum is laid. -/
import Derived.Test.YtockmpnclajjmaaDoorEncAll
import Derived.Deep.RegionHeld3
namespace Go.Proofs.YtockmpnclajjmaaDoor
open Go.RowKit

def noFrame : Value := .agg #[.int .i64 0, .int .u64 0, .slice none 0 0]
set_option maxRecDepth 100000 in
theorem decode_short (A : Option Addr) (n c : Nat) (place : Int) (h : n ≠ 256) (w : World) :
    Calls Tryd.prog 10 #[.slice A n c, .int .i64 place] w fun e w' => e = .returned (.tuple #[noFrame, .int .i64 1]) ∧ Below w.heap.size w w' := by
  have h1 : ((n : Int) != 256) = true := by rw [bne_iff_ne]; omega
  go_enter Tryd.func10, Tryd.ntmps10
  go_wp2
  exact bodyPost_ret (v := .tuple #[noFrame, .int .i64 1]) (by simp [results, Tryd.results10, go_sem, noFrame]) rfl ⟨rfl, (Below.refl _ _).alloc (Nat.le_refl _) _⟩

theorem seg_at {w : World} {b off : Nat} {l : List Nat} (h : Seg w (some ⟨b, off, none⟩) (u8s l)) (k : Nat) (hk : k < l.length) : Seg w (some ⟨b, off + k, none⟩) (u8s (l.drop k)) := by
  have := h.cut k (l.length + 1) (by rw [u8s_length]; omega)
  rw [if_neg (by omega), Option.map_some, add_none] at this
  rwa [show (u8s l).drop k = u8s (l.drop k) by simp [u8s, List.map_drop]] at this

set_option maxRecDepth 100000 in
set_option maxHeartbeats 1000000 in
theorem decode_long (b off c : Nat) (l : List Nat) (hn : 256 = l.length) (hnc : 256 ≤ c) (place : Int) (w : World) (hA : Seg w (some ⟨b, off, none⟩) (u8s l)) (hl : ∀ x ∈ l, x < 256) (h : 232 < leGet ((l.drop 4).take 2)) :
    Calls Tryd.prog 10 #[.slice (some ⟨b, off, none⟩) 256 c, .int .i64 place] w fun e w' => e = .returned (.tuple #[noFrame, .int .i64 4]) ∧ Below w.heap.size w w' := by
  have hs := seg_at hA 4 (by omega)
  have i4 : ¬ c = 4 := by omega
  have i5 : (4 : Int) ≤ (c : Int) := by omega
  have HS := Lib.hid (hs.bel ((Below.refl _ _).alloc (Nat.le_refl _) (.cells #[.int .i64 0, .int .u64 0, .slice none 0 0] 31)))
  have HD := Lib.hid (show 252 = (l.drop 4).length by rw [List.length_drop]; omega)
  have HL := Lib.hid (show ∀ x ∈ l.drop 4, x < 256 from fun x hx => hl x (List.mem_of_mem_drop hx))
  clear hs hA hl hn
  go_enter Tryd.func10, Tryd.ntmps10
  go_wp2_with fail
  refine (get_any _ 252 _ 2 (l.drop 4) HD.out (by omega) (by omega) _ HS.out HL.out).mono ?_
  rintro e w1 ⟨rfl, rfl⟩
  obtain ⟨G, hG⟩ : ∃ G, G = leGet ((l.drop 4).take 2) := ⟨_, rfl⟩
  rw [← hG] at h ⊢
  have HG := Lib.hid hG
  clear hG
  have i6 : decide ((232 : Int) < (G : Int)) = true := by simp; omega
  go_wp2
  exact bodyPost_ret (v := .tuple #[noFrame, .int .i64 4]) (by simp [results, Tryd.results10, go_sem, noFrame]) rfl ⟨rfl, (Below.refl _ _).alloc (Nat.le_refl _) _⟩

theorem bx3 {w0 w1 : World} {t : TypeId} {x y z : Value} (h : Bk w1 w0.heap.size t #[x, y, z]) :
    w1.cell? ⟨w0.heap.size, 0, none⟩ = some x ∧ w1.cell? ⟨w0.heap.size, 1, none⟩ = some y ∧ w1.cell? ⟨w0.heap.size, 2, none⟩ = some z ∧ w1.frozen? ⟨w0.heap.size, 0, none⟩ = false ∧ w1.frozen? ⟨w0.heap.size, 1, none⟩ = false ∧ w1.frozen? ⟨w0.heap.size, 2, none⟩ = false :=
  ⟨h.cell 0, h.cell 1, h.cell 2, h.frozen 0, h.frozen 1, h.frozen 2⟩
theorem clone_box (w0 : World) (t : TypeId) (x y z : Value) (ad : Addr) (n c : Nat) (l : List Nat) (hn : n = l.length) (hb : n ≤ 140737488355000) (hA : Seg (w0.alloc (.cells #[x, y, z] t)).drew (some ad) (u8s l)) :
    Calls Tryd.prog 20 #[.slice (some ad) n c] (w0.alloc (.cells #[x, y, z] t)).drew fun e w' => ∃ A' c', e = .returned (.slice A' n c') ∧ n ≤ c' ∧ Seg w' A' (u8s l) ∧ Below (w0.alloc (.cells #[x, y, z] t)).drew.heap.size (w0.alloc (.cells #[x, y, z] t)).drew w' ∧
      (w'.cell? ⟨w0.heap.size, 0, none⟩ = some x ∧ w'.cell? ⟨w0.heap.size, 1, none⟩ = some y ∧ w'.cell? ⟨w0.heap.size, 2, none⟩ = some z ∧ w'.frozen? ⟨w0.heap.size, 0, none⟩ = false ∧ w'.frozen? ⟨w0.heap.size, 1, none⟩ = false ∧ w'.frozen? ⟨w0.heap.size, 2, none⟩ = false) ∧ Bk w' w0.heap.size t #[x, y, z] ∧ (∀ a, A' = some a → w0.heap.size < a.block) :=
  (clone_any ad n c l hn hb _ hA).mono fun _ _ ⟨A', c', h1, h2, h3, h4, h5⟩ => ⟨A', c', h1, h2, h3, h4, bx3 (((Bk.new w0 t #[x, y, z]).drew).bel h4), ((Bk.new w0 t #[x, y, z]).drew).bel h4, fun a ha => by have := h5 a ha; simp at this; omega⟩
/-- What comes of reading 256 bytes. -/
def DecOut (l : List Nat) (place : Int) (w : World) (e : Ending) (w' : World) : Prop :=
  (fitsN l place ∧ ∃ A' c', (∀ a, A' = some a → w.heap.size ≤ a.block) ∧ e = .returned (.tuple #[.agg #[.int .i64 ((sayN l).1 : Int), .int .u64 ((sayN l).2.1 : Int), .slice A' (sayN l).2.2.length c'], .int .i64 0]) ∧ (sayN l).2.2.length ≤ c' ∧ Seg w' A' (u8s (sayN l).2.2) ∧ Below w.heap.size w w')
  ∨ (¬ fitsN l place ∧ e = .returned (.tuple #[noFrame, .int .i64 4]) ∧ Below w.heap.size w w')
theorem DecOut.no {l : List Nat} {place : Int} {w w' : World} (h : ¬ fitsN l place) (hb : Below w.heap.size w w') : DecOut l place w (.returned (.tuple #[noFrame, .int .i64 4])) w' := .inr ⟨h, rfl, hb⟩
theorem DecOut.yes {l : List Nat} {place : Int} {w w' : World} (h : fitsN l place) {X LE : Nat} {PL : List Nat} (hs : sayN l = (X, LE, PL)) {A' : Option Addr} {G c' : Nat} (hG : G = PL.length) (hc : G ≤ c') (hS : Seg w' A' (u8s PL)) (hb : Below w.heap.size w w') (hfr : ∀ a, A' = some a → w.heap.size < a.block) :
    DecOut l place w (.returned (.tuple #[.agg #[.int .i64 (X : Int), .int .u64 (LE : Int), .slice A' G c'], .int .i64 0])) w' := by
  refine .inl ⟨h, A', c', fun a ha => Nat.le_of_lt (hfr a ha), ?_⟩
  rw [hs]
  subst hG
  exact ⟨rfl, hc, hS, hb⟩
/-- What stands in memory while a block is read. -/
structure DecW (w : World) (b off : Nat) (l : List Nat) (w' : World) : Prop where
  seg : Seg w' (some ⟨b, off, none⟩) (u8s l)
  box : Bk w' w.heap.size 31 #[.int .i64 0, .int .u64 0, .slice none 0 0]
  bel : Below w.heap.size w w'
section
variable {w w' w'' : World} {b off : Nat} {l : List Nat}
theorem DecW.step (h : DecW w b off l w') (hb : Below w'.heap.size w' w'') : DecW w b off l w'' :=
  ⟨h.seg.bel hb, h.box.bel hb, h.bel.trans (hb.mono h.bel.size)⟩
theorem DecW.alloc (h : DecW w b off l w') (o : Obj) : DecW w b off l (w'.alloc o) := h.step ((Below.refl _ _).alloc (Nat.le_refl _) o)
theorem DecW.drew (h : DecW w b off l w') : DecW w b off l w'.drew := h.step (Below.refl _ _).drew
theorem DecW.set (h : DecW w b off l w') (g : Nat) (hg : b < g ∧ w.heap.size < g) (i : Nat) (v : Value) : DecW w b off l (w'.setCell ⟨g, i, none⟩ v) :=
  ⟨fun hn => by
      obtain ⟨b1, o1, e, hl, hc⟩ := h.seg hn
      injection e with e
      injection e with e1 e2
      subst e1 e2
      exact ⟨_, _, rfl, by simpa using hl, fun j hj => by rw [cell_set_far _ (by omega)]; exact hc j hj⟩,
    h.box.far (by show w.heap.size ≠ g; omega) v, h.bel.setCell (p := ⟨g, i, none⟩) (by show w.heap.size ≤ g; omega) v⟩
theorem DecW.S (h : DecW w b off l w') (X : Nat) (hX : l.getD 2 0 = X) (hn : 256 = l.length) : w'.cell? ⟨b, off + 2, none⟩ = some (.int .u8 (X : Int)) ∧ DecW w b off l w' := by
  refine ⟨?_, h⟩
  obtain ⟨b', o', e, _, _, hc⟩ := h.seg.pick (k := 2) (by rw [u8s_length]; omega)
  injection e with e
  injection e with e1 e2
  subst e1 e2
  rw [hc, u8s_get l 2 (by omega), ← hX]
  simp [show 2 < l.length by omega]
end
set_option maxRecDepth 100000 in
set_option maxHeartbeats 4000000 in
theorem decode_main (b off c : Nat) (l : List Nat) (hn : 256 = l.length) (hnc : 256 ≤ c) (place : Int) (w : World) (hA : Seg w (some ⟨b, off, none⟩) (u8s l)) (hl : ∀ x ∈ l, x < 256) (hT : Tab w) (h : leGet ((l.drop 4).take 2) ≤ 232) :
    Calls Tryd.prog 10 #[.slice (some ⟨b, off, none⟩) 256 c, .int .i64 place] w (DecOut l place w) := by
  have hs := seg_at hA 4 (by omega)
  have i4 : ¬ c = 4 := by omega
  have i5 : (4 : Int) ≤ (c : Int) := by omega
  have HS := Lib.hid (hs.bel ((Below.refl _ _).alloc (Nat.le_refl _) (.cells #[.int .i64 0, .int .u64 0, .slice none 0 0] 31)))
  have HD := Lib.hid (show 252 = (l.drop 4).length by rw [List.length_drop]; omega)
  have HL := Lib.hid (show ∀ x ∈ l.drop 4, x < 256 from fun x hx => hl x (List.mem_of_mem_drop hx))
  have HA := Lib.hid hA
  have HB := Lib.hid hl
  have HN := Lib.hid hn
  have HT := Lib.hid hT
  clear hs hA hl hn hT
  go_enter Tryd.func10, Tryd.ntmps10
  go_wp2_with fail
  refine (get_any _ 252 _ 2 (l.drop 4) HD.out (by omega) (by omega) _ HS.out HL.out).mono ?_
  rintro e w1 ⟨rfl, rfl⟩
  obtain ⟨G, hG⟩ : ∃ G, G = leGet ((l.drop 4).take 2) := ⟨_, rfl⟩
  rw [← hG] at h ⊢
  have HG := Lib.hid hG
  clear hG
  have i6 : decide ((232 : Int) < (G : Int)) = false := by simp; omega
  go_wp2_with fail
  obtain ⟨X, hX⟩ : ∃ X, l.getD 2 0 = X := ⟨_, rfl⟩
  have HX := Lib.hid hX
  have D0' : DecW w b off l (w.alloc (.cells #[.int .i64 0, .int .u64 0, .slice none 0 0] 31)) := ⟨HA.out.bel ((Below.refl _ _).alloc (Nat.le_refl _) _), Bk.new _ _ _, (Below.refl _ _).alloc (Nat.le_refl _) _⟩
  have HQ : Hid (b < (w.alloc (.cells #[.int .i64 0, .int .u64 0, .slice none 0 0] 31)).heap.size ∧ w.heap.size < (w.alloc (.cells #[.int .i64 0, .int .u64 0, .slice none 0 0] 31)).heap.size) := Lib.hid (by
    obtain ⟨b', o', e, hl, _⟩ := HA.out.pick (k := 2) (by rw [u8s_length, ← HN.out]; omega)
    injection e with e
    injection e with e1 e2
    subst e1
    simp; omega)
  generalize w.alloc (.cells #[.int .i64 0, .int .u64 0, .slice none 0 0] 31) = w0 at *
  have hS := D0'.S X HX.out HN.out
  have HD0 := Lib.hid D0'
  clear D0' hX i6
  have j1 : ¬ c = 8 := by omega
  have j2 : (8 : Int) ≤ (c : Int) := by omega
  have j3 : ¬ c = 24 := by omega
  have j4 : (24 : Int) ≤ (c : Int) := by omega
  have j5 : (24 : Int) + (G : Int) ≤ (c : Int) := by omega
  have j6 : IntKind.u64.wrap (24 + (G : Int)) = 24 + (G : Int) := by rw [IntKind.wrap_u64]; omega
  have j7 : (24 : Int) ≤ 24 + (G : Int) := by omega
  have j8 : (24 + (G : Int)).toNat = 24 + G := by omega
  have hXl : X < 256 := by
    rw [← HX.out]
    by_cases h2 : 2 < l.length
    · rw [show l.getD 2 0 = l[2] by simp [h2]]; exact HB.out _ (List.getElem_mem h2)
    · rw [show l.getD 2 0 = 0 by simp [List.getD, List.getElem?_eq_none (by omega : l.length ≤ 2)]]; omega
  have j9 : IntKind.i64.wrap (X : Int) = (X : Int) := IntWalk.i64_in _ (by omega)
  obtain ⟨LE, hLE⟩ : ∃ LE, LE = leGet ((l.drop 8).take 8) := ⟨_, rfl⟩
  have hLEl : LE < 18446744073709551616 := by rw [hLE]; exact leGet_take_lt _ (fun x hx => HB.out x (List.mem_of_mem_drop hx)) 8 (by omega)
  obtain ⟨PL, hPL⟩ : ∃ PL, PL = (l.drop 24).take G := ⟨_, rfl⟩
  have HSay := Lib.hid (show sayN l = (X, LE, PL) by unfold sayN; rw [HX.out, ← hLE, ← HG.out, ← hPL])
  have HPB := Lib.hid (show ∀ x ∈ PL, x < 256 by rw [hPL]; exact fun x hx => HB.out x (List.mem_of_mem_drop (List.mem_of_mem_take hx)))
  have K1 := Lib.hid (show 248 = (l.drop 8).length by rw [List.length_drop, ← HN.out])
  have K2 := Lib.hid (show ∀ x ∈ l.drop 8, x < 256 from fun x hx => HB.out x (List.mem_of_mem_drop hx))
  have K3 := Lib.hid (show G = PL.length by rw [hPL, List.length_take, List.length_drop, ← HN.out]; omega)
  have K4 := Lib.hid (fun (w' : World) (h : DecW w b off l w') => seg_at h.seg 8 (by rw [← HN.out]; omega))
  have K5 := Lib.hid (fun (w' : World) (h : DecW w b off l w') => by
    have := (seg_at h.seg 24 (by rw [← HN.out]; omega)).take G
    rwa [show (u8s (l.drop 24)).take G = u8s PL by rw [hPL]; simp [u8s, List.map_take]] at this)
  have KG := Lib.hid (fun (c : Nat) (w' : World) (h : DecW w b off l w') => show Calls Tryd.prog 21 #[.slice (some ⟨b, off + 8, none⟩) 248 c, .int .i64 8] w' (fun e w'' => e = .returned (.int .u64 (LE : Int)) ∧ w' = w'') from
    (get_any (some ⟨b, off + 8, none⟩) 248 c 8 (l.drop 8) K1.out (by omega) (by omega) w' (K4.out w' h) K2.out).mono fun e w'' ⟨h1, h2⟩ => ⟨by rw [h1, ← hLE], h2⟩)
  clear hPL hLE K4
  go_region_held3 (fun w' => w'.cell? ⟨b, off + 2, none⟩ = some (.int .u8 (X : Int)) ∧ DecW w b off l w')
    (first
      | (with_reducible assumption)
      | ((with_reducible refine DecW.S (DecW.set (DecW.set (DecW.set ?_ w0.heap.size HQ.out 0 _) w0.heap.size HQ.out 1 _) w0.heap.size HQ.out 2 _) X HX.out HN.out); go_split_ands; (with_reducible assumption))
      | ((with_reducible refine DecW.S (DecW.drew ?_) X HX.out HN.out); go_split_ands; (with_reducible assumption))
      | ((with_reducible refine DecW.S (DecW.step ?_ b') X HX.out HN.out); go_split_ands; (with_reducible assumption))
      | ((with_reducible refine DecW.S (DecW.alloc ?_ _) X HX.out HN.out); go_split_ands; (with_reducible assumption))
      | (with_reducible exact DecW.S (DecW.alloc (DecW.step (DecW.drew HD0.out) b') _) X HX.out HN.out)
      | (with_reducible exact DecW.S (DecW.drew (DecW.alloc HD0.out _)) X HX.out HN.out))
    (first
      | (go_at_call 21; refine (KG.out _ _ (by go_split_ands; assumption)).mono ?_; rintro e w' ⟨rfl, rfl⟩)
      | (go_at_call 20; ((with_reducible refine (clone_box w0 31 (.int .i64 0) (.int .u64 0) (.slice none 0 0) _ G _ PL K3.out (by omega) (K5.out _ (by go_split_ands; assumption))).mono ?_); rintro e w' ⟨A', c', rfl, hc', s', b', ⟨y0, y1, y2, f0, f1, f2⟩, bk', fr'⟩; have BK := Lib.hid bk'; have FR := Lib.hid fr'; have SG := Lib.hid s'; clear bk' fr' s'))
      | (go_at_call 20; refine (clone_any _ G _ PL K3.out (by omega) _ (K5.out _ (by go_split_ands; assumption))).mono ?_; rintro e w' ⟨A', c', rfl, hc', s', b', fr'⟩; have FR := Lib.hid fr'; have SG := Lib.hid s'; clear fr' s'))
  · clear hS
    have HFR := Lib.hid (show ∀ a, A' = some a → w.heap.size < a.block from fun a ha => by have h1 := FR.out a ha; have h2 := HQ.out.2; simp at h1; omega)
    go_wp2_with fail
    have D1 : DecW w b off l w' := HD0.out.drew.step b'
    have DX : DecW w b off l (w'.alloc (.cells #[.int .i64 (X : Int), .int .u64 (LE : Int), .slice A' G c'] 31)) := D1.alloc _
    have SX : Seg (w'.alloc (.cells #[.int .i64 (X : Int), .int .u64 (LE : Int), .slice A' G c'] 31)) A' (u8s PL) := SG.out.bel ((Below.refl _ _).alloc (Nat.le_refl _) _)
    have BX : Bk (w'.alloc (.cells #[.int .i64 (X : Int), .int .u64 (LE : Int), .slice A' G c'] 31)) w'.heap.size 31 #[.int .i64 (X : Int), .int .u64 (LE : Int), .slice A' G c'] := Bk.new _ _ _
    clear D1
    generalize w'.heap.size = g7 at *
    have DW := Lib.hid DX
    have SW := Lib.hid SX
    have BW := Lib.hid BX
    clear DX SX BX
    generalize w'.alloc (.cells #[.int .i64 (X : Int), .int .u64 (LE : Int), .slice A' G c'] 31) = w9 at *
    refine (encode_any (X : Int) LE place A' G c' PL K3.out hLEl w9 SW.out HPB.out (HT.out.below DW.out.bel)).mono ?_
    rintro e w10 (⟨g, k, p, hk, hp, k256, p2048, l232, herr, rfl, hg, hbk, hb10⟩ | ⟨er, herr, her, rfl, hb10⟩)
    · obtain rfl : k = X := by omega
      have DV := Lib.hid (DW.out.step hb10)
      have SV := Lib.hid (SW.out.bel hb10)
      have BV := BW.out.bel hb10
      have HEN := Lib.hid (show 256 = (encN k LE PL p).length from (encN_length _ _ _ _ l232).symm)
      have HSG := Lib.hid (show Seg w10 (some ⟨g, 0, none⟩) (u8s (encN k LE PL p)) from Seg.of_block hbk (fun i hi => by simp))
      have HFit := Lib.hid (show fitsN l place ↔ l = encN k LE PL p by
        constructor
        · rintro ⟨a, ha, _, _, he⟩
          rw [HSay.out] at he
          rw [← he]
          congr 1
          omega
        · intro he
          exact ⟨p, hp, p2048, by rw [← HG.out]; exact h, by rw [HSay.out]; exact he.symm⟩)
      have a0 := BV.cell 0
      have a1 := BV.cell 1
      have a2 := BV.cell 2
      have z0 := DV.out.box.cell 0
      have z1 := DV.out.box.cell 1
      have z2 := DV.out.box.cell 2
      have u0 := DV.out.box.frozen 0
      have u1 := DV.out.box.frozen 1
      have u2 := DV.out.box.frozen 2
      have HEQ := Lib.hid (equal_any (some ⟨b, off, none⟩) (some ⟨g, 0, none⟩) 256 256 c 256 l (encN k LE PL p) HN.out HEN.out w10 DV.out.seg HSG.out HB.out (encN_lt k LE PL p k256 HPB.out))
      clear BV hbk herr hk
      by_cases he : l = encN k LE PL p
      · have hfit := HFit.out.2 he
        rw [show decide (l = encN k LE PL p) = true by simp [he]] at HEQ
        have HFt := Lib.hid hfit
        clear he hfit HFit
        go_wp2_with (go_at_call 22; refine HEQ.out.mono ?_; rintro e w' ⟨rfl, rfl⟩)
        exact bodyPost_ret (v := .tuple #[.agg #[.int .i64 (k : Int), .int .u64 (LE : Int), .slice A' G c'], .int .i64 0]) (by simp [results, Tryd.results10, go_sem, z0, z1, z2]) rfl
          (DecOut.yes HFt.out HSay.out K3.out hc' (((SV.out.far HFR.out 0 _).far HFR.out 1 _).far HFR.out 2 _) (((DV.out.bel.setCell (p := ⟨w.heap.size, 0, none⟩) (Nat.le_refl _) _).setCell (p := ⟨w.heap.size, 1, none⟩) (Nat.le_refl _) _).setCell (p := ⟨w.heap.size, 2, none⟩) (Nat.le_refl _) _) HFR.out)
      · have hfit := fun hf => he (HFit.out.1 hf)
        rw [show decide (l = encN k LE PL p) = false by simp [he]] at HEQ
        have HFt := Lib.hid hfit
        clear he hfit HFit
        go_wp2_with (go_at_call 22; refine HEQ.out.mono ?_; rintro e w' ⟨rfl, rfl⟩)
        exact bodyPost_ret (v := .tuple #[noFrame, .int .i64 4]) (by simp [results, Tryd.results10, go_sem, noFrame, z0, z1, z2]) rfl
          (DecOut.no HFt.out (((DV.out.bel.setCell (p := ⟨w.heap.size, 0, none⟩) (Nat.le_refl _) _).setCell (p := ⟨w.heap.size, 1, none⟩) (Nat.le_refl _) _).setCell (p := ⟨w.heap.size, 2, none⟩) (Nat.le_refl _) _))
    · have DV := Lib.hid (DW.out.step hb10)
      have z0 := DV.out.box.cell 0
      have z1 := DV.out.box.cell 1
      have z2 := DV.out.box.cell 2
      have u0 := DV.out.box.frozen 0
      have u1 := DV.out.box.frozen 1
      have u2 := DV.out.box.frozen 2
      have hfit : ¬ fitsN l place := by
        rintro ⟨a, ha, ha2, _, _⟩
        have hok : okN (X : Int) place := ⟨by omega, by omega, by omega, by omega⟩
        unfold errN at herr
        rw [if_pos hok, if_neg (by rw [← K3.out]; omega)] at herr
        omega
      have HFt := Lib.hid hfit
      have her' : (er != 0) = true := by rw [bne_iff_ne]; omega
      clear hfit herr her
      go_wp2_with fail
      exact bodyPost_ret (v := .tuple #[noFrame, .int .i64 4]) (by simp [results, Tryd.results10, go_sem, noFrame, z0, z1, z2]) rfl
        (DecOut.no HFt.out (((DV.out.bel.setCell (p := ⟨w.heap.size, 0, none⟩) (Nat.le_refl _) _).setCell (p := ⟨w.heap.size, 1, none⟩) (Nat.le_refl _) _).setCell (p := ⟨w.heap.size, 2, none⟩) (Nat.le_refl _) _))
  · clear hS
    have HFR := Lib.hid (show ∀ a, A' = some a → w.heap.size < a.block from fun a ha => by have h1 := FR.out a ha; have h2 := HQ.out.2; omega)
    go_wp2_with fail
    clear y0 y1 y2 f0 f1 f2
    have D1 : DecW w b off l w' := (HD0.out.alloc _).drew.step b'
    have DX : DecW w b off l (((w'.setCell ⟨w0.heap.size, 0, none⟩ (.int .i64 (X : Int))).setCell ⟨w0.heap.size, 1, none⟩ (.int .u64 (LE : Int))).setCell ⟨w0.heap.size, 2, none⟩ (.slice A' G c')) := ((D1.set _ HQ.out 0 _).set _ HQ.out 1 _).set _ HQ.out 2 _
    have SX : Seg (((w'.setCell ⟨w0.heap.size, 0, none⟩ (.int .i64 (X : Int))).setCell ⟨w0.heap.size, 1, none⟩ (.int .u64 (LE : Int))).setCell ⟨w0.heap.size, 2, none⟩ (.slice A' G c')) A' (u8s PL) := ((SG.out.far FR.out 0 _).far FR.out 1 _).far FR.out 2 _
    have BX : Bk (((w'.setCell ⟨w0.heap.size, 0, none⟩ (.int .i64 (X : Int))).setCell ⟨w0.heap.size, 1, none⟩ (.int .u64 (LE : Int))).setCell ⟨w0.heap.size, 2, none⟩ (.slice A' G c')) w0.heap.size 31 #[.int .i64 (X : Int), .int .u64 (LE : Int), .slice A' G c'] := ((BK.out.put 0 _).put 1 _).put 2 _
    clear D1
    have DW := Lib.hid DX
    have SW := Lib.hid SX
    have BW := Lib.hid BX
    clear DX SX BX
    generalize (((w'.setCell ⟨w0.heap.size, 0, none⟩ (.int .i64 (X : Int))).setCell ⟨w0.heap.size, 1, none⟩ (.int .u64 (LE : Int))).setCell ⟨w0.heap.size, 2, none⟩ (.slice A' G c')) = w9 at *
    refine (encode_any (X : Int) LE place A' G c' PL K3.out hLEl w9 SW.out HPB.out (HT.out.below DW.out.bel)).mono ?_
    rintro e w10 (⟨g, k, p, hk, hp, k256, p2048, l232, herr, rfl, hg, hbk, hb10⟩ | ⟨er, herr, her, rfl, hb10⟩)
    · obtain rfl : k = X := by omega
      have DV := Lib.hid (DW.out.step hb10)
      have SV := Lib.hid (SW.out.bel hb10)
      have BV := BW.out.bel hb10
      have HEN := Lib.hid (show 256 = (encN k LE PL p).length from (encN_length _ _ _ _ l232).symm)
      have HSG := Lib.hid (show Seg w10 (some ⟨g, 0, none⟩) (u8s (encN k LE PL p)) from Seg.of_block hbk (fun i hi => by simp))
      have HFit := Lib.hid (show fitsN l place ↔ l = encN k LE PL p by
        constructor
        · rintro ⟨a, ha, _, _, he⟩
          rw [HSay.out] at he
          rw [← he]
          congr 1
          omega
        · intro he
          exact ⟨p, hp, p2048, by rw [← HG.out]; exact h, by rw [HSay.out]; exact he.symm⟩)
      have a0 := BV.cell 0
      have a1 := BV.cell 1
      have a2 := BV.cell 2
      have z0 := DV.out.box.cell 0
      have z1 := DV.out.box.cell 1
      have z2 := DV.out.box.cell 2
      have u0 := DV.out.box.frozen 0
      have u1 := DV.out.box.frozen 1
      have u2 := DV.out.box.frozen 2
      have HEQ := Lib.hid (equal_any (some ⟨b, off, none⟩) (some ⟨g, 0, none⟩) 256 256 c 256 l (encN k LE PL p) HN.out HEN.out w10 DV.out.seg HSG.out HB.out (encN_lt k LE PL p k256 HPB.out))
      clear BV hbk herr hk
      by_cases he : l = encN k LE PL p
      · have hfit := HFit.out.2 he
        rw [show decide (l = encN k LE PL p) = true by simp [he]] at HEQ
        have HFt := Lib.hid hfit
        clear he hfit HFit
        go_wp2_with (go_at_call 22; refine HEQ.out.mono ?_; rintro e w' ⟨rfl, rfl⟩)
        exact bodyPost_ret (v := .tuple #[.agg #[.int .i64 (k : Int), .int .u64 (LE : Int), .slice A' G c'], .int .i64 0]) (by simp [results, Tryd.results10, go_sem, z0, z1, z2]) rfl
          (DecOut.yes HFt.out HSay.out K3.out hc' (((SV.out.far HFR.out 0 _).far HFR.out 1 _).far HFR.out 2 _) (((DV.out.bel.setCell (p := ⟨w.heap.size, 0, none⟩) (Nat.le_refl _) _).setCell (p := ⟨w.heap.size, 1, none⟩) (Nat.le_refl _) _).setCell (p := ⟨w.heap.size, 2, none⟩) (Nat.le_refl _) _) HFR.out)
      · have hfit := fun hf => he (HFit.out.1 hf)
        rw [show decide (l = encN k LE PL p) = false by simp [he]] at HEQ
        have HFt := Lib.hid hfit
        clear he hfit HFit
        go_wp2_with (go_at_call 22; refine HEQ.out.mono ?_; rintro e w' ⟨rfl, rfl⟩)
        exact bodyPost_ret (v := .tuple #[noFrame, .int .i64 4]) (by simp [results, Tryd.results10, go_sem, noFrame, z0, z1, z2]) rfl
          (DecOut.no HFt.out (((DV.out.bel.setCell (p := ⟨w.heap.size, 0, none⟩) (Nat.le_refl _) _).setCell (p := ⟨w.heap.size, 1, none⟩) (Nat.le_refl _) _).setCell (p := ⟨w.heap.size, 2, none⟩) (Nat.le_refl _) _))
    · have DV := Lib.hid (DW.out.step hb10)
      have z0 := DV.out.box.cell 0
      have z1 := DV.out.box.cell 1
      have z2 := DV.out.box.cell 2
      have u0 := DV.out.box.frozen 0
      have u1 := DV.out.box.frozen 1
      have u2 := DV.out.box.frozen 2
      have hfit : ¬ fitsN l place := by
        rintro ⟨a, ha, ha2, _, _⟩
        have hok : okN (X : Int) place := ⟨by omega, by omega, by omega, by omega⟩
        unfold errN at herr
        rw [if_pos hok, if_neg (by rw [← K3.out]; omega)] at herr
        omega
      have HFt := Lib.hid hfit
      have her' : (er != 0) = true := by rw [bne_iff_ne]; omega
      clear hfit herr her
      go_wp2_with fail
      exact bodyPost_ret (v := .tuple #[noFrame, .int .i64 4]) (by simp [results, Tryd.results10, go_sem, noFrame, z0, z1, z2]) rfl
        (DecOut.no HFt.out (((DV.out.bel.setCell (p := ⟨w.heap.size, 0, none⟩) (Nat.le_refl _) _).setCell (p := ⟨w.heap.size, 1, none⟩) (Nat.le_refl _) _).setCell (p := ⟨w.heap.size, 2, none⟩) (Nat.le_refl _) _))
  · clear hS
    have HFR := Lib.hid (show ∀ a, A' = some a → w.heap.size < a.block from fun a ha => by have h1 := FR.out a ha; have h2 := HQ.out.2; omega)
    go_wp2_with fail
    clear y0 y1 y2 f0 f1 f2
    have D1 : DecW w b off l w' := (HD0.out.alloc _).drew.step b'
    have DX : DecW w b off l (((w'.setCell ⟨w0.heap.size, 0, none⟩ (.int .i64 (X : Int))).setCell ⟨w0.heap.size, 1, none⟩ (.int .u64 (LE : Int))).setCell ⟨w0.heap.size, 2, none⟩ (.slice A' G c')) := ((D1.set _ HQ.out 0 _).set _ HQ.out 1 _).set _ HQ.out 2 _
    have SX : Seg (((w'.setCell ⟨w0.heap.size, 0, none⟩ (.int .i64 (X : Int))).setCell ⟨w0.heap.size, 1, none⟩ (.int .u64 (LE : Int))).setCell ⟨w0.heap.size, 2, none⟩ (.slice A' G c')) A' (u8s PL) := ((SG.out.far FR.out 0 _).far FR.out 1 _).far FR.out 2 _
    have BX : Bk (((w'.setCell ⟨w0.heap.size, 0, none⟩ (.int .i64 (X : Int))).setCell ⟨w0.heap.size, 1, none⟩ (.int .u64 (LE : Int))).setCell ⟨w0.heap.size, 2, none⟩ (.slice A' G c')) w0.heap.size 31 #[.int .i64 (X : Int), .int .u64 (LE : Int), .slice A' G c'] := ((BK.out.put 0 _).put 1 _).put 2 _
    clear D1
    have DW := Lib.hid DX
    have SW := Lib.hid SX
    have BW := Lib.hid BX
    clear DX SX BX
    generalize (((w'.setCell ⟨w0.heap.size, 0, none⟩ (.int .i64 (X : Int))).setCell ⟨w0.heap.size, 1, none⟩ (.int .u64 (LE : Int))).setCell ⟨w0.heap.size, 2, none⟩ (.slice A' G c')) = w9 at *
    refine (encode_any (X : Int) LE place A' G c' PL K3.out hLEl w9 SW.out HPB.out (HT.out.below DW.out.bel)).mono ?_
    rintro e w10 (⟨g, k, p, hk, hp, k256, p2048, l232, herr, rfl, hg, hbk, hb10⟩ | ⟨er, herr, her, rfl, hb10⟩)
    · obtain rfl : k = X := by omega
      have DV := Lib.hid (DW.out.step hb10)
      have SV := Lib.hid (SW.out.bel hb10)
      have BV := BW.out.bel hb10
      have HEN := Lib.hid (show 256 = (encN k LE PL p).length from (encN_length _ _ _ _ l232).symm)
      have HSG := Lib.hid (show Seg w10 (some ⟨g, 0, none⟩) (u8s (encN k LE PL p)) from Seg.of_block hbk (fun i hi => by simp))
      have HFit := Lib.hid (show fitsN l place ↔ l = encN k LE PL p by
        constructor
        · rintro ⟨a, ha, _, _, he⟩
          rw [HSay.out] at he
          rw [← he]
          congr 1
          omega
        · intro he
          exact ⟨p, hp, p2048, by rw [← HG.out]; exact h, by rw [HSay.out]; exact he.symm⟩)
      have a0 := BV.cell 0
      have a1 := BV.cell 1
      have a2 := BV.cell 2
      have z0 := DV.out.box.cell 0
      have z1 := DV.out.box.cell 1
      have z2 := DV.out.box.cell 2
      have u0 := DV.out.box.frozen 0
      have u1 := DV.out.box.frozen 1
      have u2 := DV.out.box.frozen 2
      have HEQ := Lib.hid (equal_any (some ⟨b, off, none⟩) (some ⟨g, 0, none⟩) 256 256 c 256 l (encN k LE PL p) HN.out HEN.out w10 DV.out.seg HSG.out HB.out (encN_lt k LE PL p k256 HPB.out))
      clear BV hbk herr hk
      by_cases he : l = encN k LE PL p
      · have hfit := HFit.out.2 he
        rw [show decide (l = encN k LE PL p) = true by simp [he]] at HEQ
        have HFt := Lib.hid hfit
        clear he hfit HFit
        go_wp2_with (go_at_call 22; refine HEQ.out.mono ?_; rintro e w' ⟨rfl, rfl⟩)
        exact bodyPost_ret (v := .tuple #[.agg #[.int .i64 (k : Int), .int .u64 (LE : Int), .slice A' G c'], .int .i64 0]) (by simp [results, Tryd.results10, go_sem, z0, z1, z2]) rfl
          (DecOut.yes HFt.out HSay.out K3.out hc' (((SV.out.far HFR.out 0 _).far HFR.out 1 _).far HFR.out 2 _) (((DV.out.bel.setCell (p := ⟨w.heap.size, 0, none⟩) (Nat.le_refl _) _).setCell (p := ⟨w.heap.size, 1, none⟩) (Nat.le_refl _) _).setCell (p := ⟨w.heap.size, 2, none⟩) (Nat.le_refl _) _) HFR.out)
      · have hfit := fun hf => he (HFit.out.1 hf)
        rw [show decide (l = encN k LE PL p) = false by simp [he]] at HEQ
        have HFt := Lib.hid hfit
        clear he hfit HFit
        go_wp2_with (go_at_call 22; refine HEQ.out.mono ?_; rintro e w' ⟨rfl, rfl⟩)
        exact bodyPost_ret (v := .tuple #[noFrame, .int .i64 4]) (by simp [results, Tryd.results10, go_sem, noFrame, z0, z1, z2]) rfl
          (DecOut.no HFt.out (((DV.out.bel.setCell (p := ⟨w.heap.size, 0, none⟩) (Nat.le_refl _) _).setCell (p := ⟨w.heap.size, 1, none⟩) (Nat.le_refl _) _).setCell (p := ⟨w.heap.size, 2, none⟩) (Nat.le_refl _) _))
    · have DV := Lib.hid (DW.out.step hb10)
      have z0 := DV.out.box.cell 0
      have z1 := DV.out.box.cell 1
      have z2 := DV.out.box.cell 2
      have u0 := DV.out.box.frozen 0
      have u1 := DV.out.box.frozen 1
      have u2 := DV.out.box.frozen 2
      have hfit : ¬ fitsN l place := by
        rintro ⟨a, ha, ha2, _, _⟩
        have hok : okN (X : Int) place := ⟨by omega, by omega, by omega, by omega⟩
        unfold errN at herr
        rw [if_pos hok, if_neg (by rw [← K3.out]; omega)] at herr
        omega
      have HFt := Lib.hid hfit
      have her' : (er != 0) = true := by rw [bne_iff_ne]; omega
      clear hfit herr her
      go_wp2_with fail
      exact bodyPost_ret (v := .tuple #[noFrame, .int .i64 4]) (by simp [results, Tryd.results10, go_sem, noFrame, z0, z1, z2]) rfl
        (DecOut.no HFt.out (((DV.out.bel.setCell (p := ⟨w.heap.size, 0, none⟩) (Nat.le_refl _) _).setCell (p := ⟨w.heap.size, 1, none⟩) (Nat.le_refl _) _).setCell (p := ⟨w.heap.size, 2, none⟩) (Nat.le_refl _) _))
end Go.Proofs.YtockmpnclajjmaaDoor
