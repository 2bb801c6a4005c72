/- Tokens: what the layer issues and what it makes of a text. Conditions: the texts are not huge; the library's table and errors are laid. -/
import Derived.Test.YtbpclifgafafdaaDoorHx
import Derived.Test.YtbpclifgafafdaaDoorIDig
import Derived.Test.YtbpclifgafafdaaDoorUtfB
import Derived.Lib.ConvBytes
namespace Go.Proofs.YtbpclifgafafdaaDoor
open Go.RowKit Go.Shelf
theorem txt_size (l : List Nat) : (txt l).size = l.length := by simp [txt, ByteArray.size]
theorem txt_append (a b : List Nat) : txt (a ++ b) = txt a ++ txt b := by
  apply ByteArray.ext
  rw [ByteArray.data_append]
  simp [txt]

/-- A text's bytes. -/
def octs (s : ByteArray) : List Nat := s.data.toList.map UInt8.toNat
theorem octs_length (s : ByteArray) : (octs s).length = s.size := by unfold octs; rw [List.length_map, Array.length_toList]; rfl
theorem octs_lt (s : ByteArray) : ∀ x ∈ octs s, x < 256 := by
  intro x hx
  unfold octs at hx
  obtain ⟨b, _, rfl⟩ := List.mem_map.1 hx
  exact UInt8.toNat_lt b
/-- A text's bytes in new memory. -/
theorem convS_any (s : ByteArray) (w : World) : ∃ c w', (convert 9 47 (.string s)).run Tryd.prog w = .ok (.slice (some ⟨w.heap.size, 0, none⟩) s.size c) w' ∧ s.size ≤ c ∧ Seg w' (some ⟨w.heap.size, 0, none⟩) (u8s (octs s)) ∧ Below w.heap.size w w' ∧ w.heap.size < w'.heap.size := by
  refine ⟨_, _, Lib.run_convert_string_bytes (P := Tryd.prog) w 9 47 5 s Tryd.underlying9 Tryd.underlying47 Tryd.underlying5, grownCap_ge _ _ _ _, ?_, ?_, by rw [Lib.bytesWorld_size]; omega⟩
  · intro _
    refine ⟨w.heap.size, 0, rfl, by rw [Lib.bytesWorld_size]; omega, fun i hi => ?_⟩
    rw [u8s_length, octs_length] at hi
    have hi2 : i < s.data.toList.length := by rw [Array.length_toList]; exact hi
    rw [Nat.zero_add, Lib.bytesWorld_cell w 5 s i hi, List.getD_eq_getElem?_getD, List.getElem?_eq_getElem hi2]
    unfold octs u8s
    rw [List.getElem?_map, List.getElem?_map, List.getElem?_eq_getElem hi2]
    rfl
  · exact ⟨rfl, rfl, rfl, by rw [Lib.bytesWorld_size]; omega, fun k hk => Lib.bytesWorld_at_old w 5 s k hk⟩
/-- What a token says, ahead of its mark. -/
def saidT (user : ByteArray) (u : Int) : ByteArray := user ++ ⟨#[46]⟩ ++ intS u
def markT (key : List Nat) (user : ByteArray) (u : Int) : ByteArray := txt (hexN (macN key (octs (saidT user u))))
def tokT (key : List Nat) (user : ByteArray) (u : Int) : ByteArray := saidT user u ++ ⟨#[46]⟩ ++ markT key user u
theorem macN_len (k b : List Nat) : (macN k b).length = 20 := shaN_length _
theorem macN_lt (k b : List Nat) : ∀ x ∈ macN k b, x < 256 := shaN_lt _
theorem markT_size (key : List Nat) (user : ByteArray) (u : Int) : (markT key user u).size = 40 := by unfold markT; rw [txt_size, hexN_length, macN_len]
theorem saidT_size (user : ByteArray) (u : Int) (h0 : -9223372036854775808 ≤ u) (h1 : u ≤ 9223372036854775807) : (saidT user u).size ≤ user.size + 22 := by
  unfold saidT
  rw [ByteArray.size_append, ByteArray.size_append]
  have := intS_size u h0 h1
  show user.size + 1 + _ ≤ _
  omega
set_option maxRecDepth 100000 in
set_option maxHeartbeats 2000000 in
/-- The mark of what is said: the walk that Issue and the reference's Token share. -/
theorem issue_ok (A : Option Addr) (n c : Nat) (key : List Nat) (hn : n = key.length) (h100 : n ≤ 100) (hnc : n ≤ c) (user : ByteArray) (hu : user.size ≤ 1000) (u : Int) (h0 : 0 ≤ u) (h1 : u ≤ 9223372036854775807) (w : World) (hA : Seg w A (u8s key)) (hk : ∀ x ∈ key, x < 256) (hT : Pows w) (hnm : nameB user = true) :
    Calls Tryd.prog 9 #[.slice A n c, .string user, .int .i64 u] w fun e w' => e = .returned (.tuple #[.string (tokT key user u), .int .i64 0]) ∧ Below w.heap.size w w' := by
  have HNm := Lib.hid (name_any user (by omega))
  rw [hnm] at HNm
  have HI := Lib.hid (itoa_any u (by omega) h1 w hT)
  have hz := saidT_size user u (by omega) h1
  have hi := intS_size u (by omega) h1
  have HR := Lib.hid (show tokT key user u = saidT user u ++ ⟨#[46]⟩ ++ markT key user u from rfl)
  obtain ⟨T, hTe⟩ : ∃ T, T = saidT user u := ⟨_, rfl⟩
  obtain ⟨D, hD⟩ : ∃ D, D = intS u := ⟨_, rfl⟩
  have hdz : D.size ≤ 21 := by rw [hD]; exact hi
  have hTD : user ++ ⟨#[46]⟩ ++ D = T := by rw [hTe, hD]; rfl
  have HI2 : Hid (Calls Tryd.prog 17 #[.int .i64 u] w fun e w' => e = .returned (.string D) ∧ Below w.heap.size w w') := Lib.hid (by rw [hD]; exact HI.out)
  have hTz : T.size ≤ 1022 := by rw [hTe]; omega
  have ha1 : ∀ w', (Op.stringOp .add user ⟨#[46]⟩).run Tryd.prog w' = .ok (.string (user ++ ⟨#[46]⟩)) w' := fun w' => run_string_add_sum (P := Tryd.prog) w' _ _ (by show _ + 1 ≤ _; omega)
  have ha2 : ∀ w', (Op.stringOp .add (user ++ ⟨#[46]⟩) D).run Tryd.prog w' = .ok (.string T) w' := fun w' => by
    rw [run_string_add_sum (P := Tryd.prog) w' _ _ (by rw [ByteArray.size_append]; show user.size + 1 + _ ≤ _; omega), hTD]
  have ha3 : ∀ w', (Op.stringOp .add T ⟨#[46]⟩).run Tryd.prog w' = .ok (.string (T ++ ⟨#[46]⟩)) w' := fun w' => run_string_add_sum (P := Tryd.prog) w' _ _ (by show _ + 1 ≤ _; omega)
  have hm40 := markT_size key user u
  have HM : Hid (markT key user u = txt (hexN (macN key (octs T)))) := Lib.hid (by rw [hTe]; rfl)
  obtain ⟨M, hMe⟩ : ∃ M, M = markT key user u := ⟨_, rfl⟩
  rw [← hMe] at hm40 HM HR
  rw [← hTe] at HR
  have ha4 : ∀ w', (Op.stringOp .add (T ++ ⟨#[46]⟩) M).run Tryd.prog w' = .ok (.string (T ++ ⟨#[46]⟩ ++ M)) w' := fun w' => run_string_add_sum (P := Tryd.prog) w' _ _ (by rw [ByteArray.size_append]; show T.size + 1 + _ ≤ _; omega)
  have HA := Lib.hid hA
  have HK := Lib.hid hk
  have HN := Lib.hid hn
  have HTZ := Lib.hid hTz
  rw [HR.out]
  clear hTe hD hTD hMe hA hk hn hz hi hdz HI hnm hT hm40 HR hu hTz
  go_enter Tryd.func9, Tryd.ntmps9
  go_wp2_with (go_at_call 16; refine (HNm.out _).mono ?_; rintro e w' ⟨rfl, rfl⟩)
  refine HI2.out.mono ?_
  rintro e w1 ⟨rfl, b1⟩
  have B1 := Lib.hid b1
  clear b1
  obtain ⟨cc, w2, hcv, hcc, hsg, hb2, _⟩ := convS_any T w1
  have B2 := Lib.hid (below_step B1.out hb2)
  have CM := Lib.hid (mac_any A (some ⟨w1.heap.size, 0, none⟩) n c T.size cc key (octs T) HN.out (octs_length T).symm hnc hcc (by omega) (by have := HTZ.out; omega) w2 (HA.out.bel B2.out) hsg HK.out (octs_lt T))
  clear hcc hsg hb2 B1
  go_wp2_with fail
  refine CM.out.mono ?_
  rintro e w3 ⟨A3, c3, rfl, hc3, s3, b3⟩
  have B3 := Lib.hid (below_step B2.out b3)
  have CH := Lib.hid (bhex_any A3 20 c3 (macN key (octs T)) (macN_len _ _).symm (by omega) w3 s3 (macN_lt _ _))
  rw [← HM.out] at CH
  clear s3 b3 hcv B2 CM hc3
  go_wp2_with fail
  refine CH.out.mono ?_
  rintro e w4 ⟨rfl, b4⟩
  have B4 := Lib.hid (below_step B3.out b4)
  clear b4
  go_wp2_with fail
  go_ret2
  exact ⟨rfl, B4.out⟩
theorem issue_no (A : Option Addr) (n c : Nat) (user : ByteArray) (hu : user.size ≤ 9223372036854775807) (u : Int) (w : World) (hno : nameB user = false ∨ u < 0) :
    Calls Tryd.prog 9 #[.slice A n c, .string user, .int .i64 u] w fun e w' => e = .returned (.tuple #[.string ⟨#[]⟩, .int .i64 1]) ∧ Below w.heap.size w w' := by
  have HNm := Lib.hid (name_any user hu)
  have hrefl := Lib.hid (Below.refl w.heap.size w)
  cases hnm : nameB user
  · rw [hnm] at HNm
    clear hno hnm
    go_enter Tryd.func9, Tryd.ntmps9
    go_wp2_with (go_at_call 16; refine (HNm.out _).mono ?_; rintro e w' ⟨rfl, rfl⟩)
    go_ret2
    exact ⟨rfl, hrefl.out⟩
  · rw [hnm] at HNm
    have hneg : u < 0 := by rcases hno with h | h; (rw [hnm] at h; cases h); exact h
    clear hno hnm
    go_enter Tryd.func9, Tryd.ntmps9
    go_wp2_with (go_at_call 16; refine (HNm.out _).mono ?_; rintro e w' ⟨rfl, rfl⟩)
    go_ret2
    exact ⟨rfl, hrefl.out⟩
end Go.Proofs.YtbpclifgafafdaaDoor
