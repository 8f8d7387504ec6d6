/- the id of the chapter's example: two digests, word by word (mkcsb.py) -/
import Derived.Test.YtagjolbpmhbifaaGreatDoorDgy
namespace Go.Proofs.YtagjolbpmhbifaaGreatDoor.Dg
def b55L : List (BitVec 8) := [1#8, 0#8, 0#8, 0#8, 0#8, 0#8, 0#8, 0#8, 0#8, 0#8, 0#8, 0#8, 0#8, 0#8, 0#8, 0#8, 0#8, 0#8, 0#8, 0#8, 0#8, 0#8, 0#8, 0#8, 0#8, 0#8, 0#8, 0#8, 0#8, 0#8, 0#8, 0#8, 0#8, 0#8, 0#8, 0#8, 0#8, 1#8, 7#8, 0#8, 0#8, 0#8, 0#8, 0#8, 0#8, 0#8, 0#8, 0#8, 0#8, 0#8, 0#8, 0#8, 0#8, 0#8, 0#8]
theorem b55_pad : pad b55L = [1#8, 0#8, 0#8, 0#8, 0#8, 0#8, 0#8, 0#8, 0#8, 0#8, 0#8, 0#8, 0#8, 0#8, 0#8, 0#8, 0#8, 0#8, 0#8, 0#8, 0#8, 0#8, 0#8, 0#8, 0#8, 0#8, 0#8, 0#8, 0#8, 0#8, 0#8, 0#8, 0#8, 0#8, 0#8, 0#8, 0#8, 1#8, 7#8, 0#8, 0#8, 0#8, 0#8, 0#8, 0#8, 0#8, 0#8, 0#8, 0#8, 0#8, 0#8, 0#8, 0#8, 0#8, 0#8, 128#8, 0#8, 0#8, 0#8, 0#8, 0#8, 0#8, 1#8, 184#8] := by decide +kernel
def pM : Nat → BitVec 32 := blk [1#8, 0#8, 0#8, 0#8, 0#8, 0#8, 0#8, 0#8, 0#8, 0#8, 0#8, 0#8, 0#8, 0#8, 0#8, 0#8, 0#8, 0#8, 0#8, 0#8, 0#8, 0#8, 0#8, 0#8, 0#8, 0#8, 0#8, 0#8, 0#8, 0#8, 0#8, 0#8, 0#8, 0#8, 0#8, 0#8, 0#8, 1#8, 7#8, 0#8, 0#8, 0#8, 0#8, 0#8, 0#8, 0#8, 0#8, 0#8, 0#8, 0#8, 0#8, 0#8, 0#8, 0#8, 0#8, 128#8, 0#8, 0#8, 0#8, 0#8, 0#8, 0#8, 1#8, 184#8] 0
theorem pw0 : sch pM 0 = 16777216#32 := by rw [sch_lo _ (by omega)]; decide +kernel
theorem pw1 : sch pM 1 = 0#32 := by rw [sch_lo _ (by omega)]; decide +kernel
theorem pw2 : sch pM 2 = 0#32 := by rw [sch_lo _ (by omega)]; decide +kernel
theorem pw3 : sch pM 3 = 0#32 := by rw [sch_lo _ (by omega)]; decide +kernel
theorem pw4 : sch pM 4 = 0#32 := by rw [sch_lo _ (by omega)]; decide +kernel
theorem pw5 : sch pM 5 = 0#32 := by rw [sch_lo _ (by omega)]; decide +kernel
theorem pw6 : sch pM 6 = 0#32 := by rw [sch_lo _ (by omega)]; decide +kernel
theorem pw7 : sch pM 7 = 0#32 := by rw [sch_lo _ (by omega)]; decide +kernel
theorem pw8 : sch pM 8 = 0#32 := by rw [sch_lo _ (by omega)]; decide +kernel
theorem pw9 : sch pM 9 = 67328#32 := by rw [sch_lo _ (by omega)]; decide +kernel
theorem pw10 : sch pM 10 = 0#32 := by rw [sch_lo _ (by omega)]; decide +kernel
theorem pw11 : sch pM 11 = 0#32 := by rw [sch_lo _ (by omega)]; decide +kernel
theorem pw12 : sch pM 12 = 0#32 := by rw [sch_lo _ (by omega)]; decide +kernel
theorem pw13 : sch pM 13 = 128#32 := by rw [sch_lo _ (by omega)]; decide +kernel
theorem pw14 : sch pM 14 = 0#32 := by rw [sch_lo _ (by omega)]; decide +kernel
theorem pw15 : sch pM 15 = 440#32 := by rw [sch_lo _ (by omega)]; decide +kernel
theorem pw16 : sch pM 16 = 16844544#32 := by rw [sch_hi _ (by omega), show 16 - 2 = 14 from rfl, show 16 - 7 = 9 from rfl, show 16 - 15 = 1 from rfl, show 16 - 16 = 0 from rfl, pw14, pw9, pw1, pw0]; decide +kernel
theorem pw17 : sch pM 17 = 15400960#32 := by rw [sch_hi _ (by omega), show 17 - 2 = 15 from rfl, show 17 - 7 = 10 from rfl, show 17 - 15 = 2 from rfl, show 17 - 16 = 1 from rfl, pw15, pw10, pw2, pw1]; decide +kernel
theorem pw18 : sch pM 18 = 2740994273#32 := by rw [sch_hi _ (by omega), show 18 - 2 = 16 from rfl, show 18 - 7 = 11 from rfl, show 18 - 15 = 3 from rfl, show 18 - 16 = 2 from rfl, pw16, pw11, pw3, pw2]; decide +kernel
theorem pw19 : sch pM 19 = 3758111400#32 := by rw [sch_hi _ (by omega), show 19 - 2 = 17 from rfl, show 19 - 7 = 12 from rfl, show 19 - 15 = 4 from rfl, show 19 - 16 = 3 from rfl, pw17, pw12, pw4, pw3]; decide +kernel
theorem pw20 : sch pM 20 = 675561036#32 := by rw [sch_hi _ (by omega), show 20 - 2 = 18 from rfl, show 20 - 7 = 13 from rfl, show 20 - 15 = 5 from rfl, show 20 - 16 = 4 from rfl, pw18, pw13, pw5, pw4]; decide +kernel
theorem pw21 : sch pM 21 = 439970830#32 := by rw [sch_hi _ (by omega), show 21 - 2 = 19 from rfl, show 21 - 7 = 14 from rfl, show 21 - 15 = 6 from rfl, show 21 - 16 = 5 from rfl, pw19, pw14, pw6, pw5]; decide +kernel
theorem pw22 : sch pM 22 = 2565177821#32 := by rw [sch_hi _ (by omega), show 22 - 2 = 20 from rfl, show 22 - 7 = 15 from rfl, show 22 - 15 = 7 from rfl, show 22 - 16 = 6 from rfl, pw20, pw15, pw7, pw6]; decide +kernel
theorem pw23 : sch pM 23 = 2625718016#32 := by rw [sch_hi _ (by omega), show 23 - 2 = 21 from rfl, show 23 - 7 = 16 from rfl, show 23 - 15 = 8 from rfl, show 23 - 16 = 7 from rfl, pw21, pw16, pw8, pw7]; decide +kernel
theorem pw24 : sch pM 24 = 3013503228#32 := by rw [sch_hi _ (by omega), show 24 - 2 = 22 from rfl, show 24 - 7 = 17 from rfl, show 24 - 15 = 9 from rfl, show 24 - 16 = 8 from rfl, pw22, pw17, pw9, pw8]; decide +kernel
theorem pw25 : sch pM 25 = 782812514#32 := by rw [sch_hi _ (by omega), show 25 - 2 = 23 from rfl, show 25 - 7 = 18 from rfl, show 25 - 15 = 10 from rfl, show 25 - 16 = 9 from rfl, pw23, pw18, pw10, pw9]; decide +kernel
theorem pw26 : sch pM 26 = 3645727438#32 := by rw [sch_hi _ (by omega), show 26 - 2 = 24 from rfl, show 26 - 7 = 19 from rfl, show 26 - 15 = 11 from rfl, show 26 - 16 = 10 from rfl, pw24, pw19, pw11, pw10]; decide +kernel
theorem pw27 : sch pM 27 = 2723886844#32 := by rw [sch_hi _ (by omega), show 27 - 2 = 25 from rfl, show 27 - 7 = 20 from rfl, show 27 - 15 = 12 from rfl, show 27 - 16 = 11 from rfl, pw25, pw20, pw12, pw11]; decide +kernel
theorem pw28 : sch pM 28 = 929190134#32 := by rw [sch_hi _ (by omega), show 28 - 2 = 26 from rfl, show 28 - 7 = 21 from rfl, show 28 - 15 = 13 from rfl, show 28 - 16 = 12 from rfl, pw26, pw21, pw13, pw12]; decide +kernel
theorem pw29 : sch pM 29 = 2523846152#32 := by rw [sch_hi _ (by omega), show 29 - 2 = 27 from rfl, show 29 - 7 = 22 from rfl, show 29 - 15 = 14 from rfl, show 29 - 16 = 13 from rfl, pw27, pw22, pw14, pw13]; decide +kernel
theorem pw30 : sch pM 30 = 1867992317#32 := by rw [sch_hi _ (by omega), show 30 - 2 = 28 from rfl, show 30 - 7 = 23 from rfl, show 30 - 15 = 15 from rfl, show 30 - 16 = 14 from rfl, pw28, pw23, pw15, pw14]; decide +kernel
theorem pw31 : sch pM 31 = 2808172465#32 := by rw [sch_hi _ (by omega), show 31 - 2 = 29 from rfl, show 31 - 7 = 24 from rfl, show 31 - 15 = 16 from rfl, show 31 - 16 = 15 from rfl, pw29, pw24, pw16, pw15]; decide +kernel
theorem pw32 : sch pM 32 = 1069634094#32 := by rw [sch_hi _ (by omega), show 32 - 2 = 30 from rfl, show 32 - 7 = 25 from rfl, show 32 - 15 = 17 from rfl, show 32 - 16 = 16 from rfl, pw30, pw25, pw17, pw16]; decide +kernel
theorem pw33 : sch pM 33 = 793920034#32 := by rw [sch_hi _ (by omega), show 33 - 2 = 31 from rfl, show 33 - 7 = 26 from rfl, show 33 - 15 = 18 from rfl, show 33 - 16 = 17 from rfl, pw31, pw26, pw18, pw17]; decide +kernel
theorem pw34 : sch pM 34 = 209903433#32 := by rw [sch_hi _ (by omega), show 34 - 2 = 32 from rfl, show 34 - 7 = 27 from rfl, show 34 - 15 = 19 from rfl, show 34 - 16 = 18 from rfl, pw32, pw27, pw19, pw18]; decide +kernel
theorem pw35 : sch pM 35 = 327948309#32 := by rw [sch_hi _ (by omega), show 35 - 2 = 33 from rfl, show 35 - 7 = 28 from rfl, show 35 - 15 = 20 from rfl, show 35 - 16 = 19 from rfl, pw33, pw28, pw20, pw19]; decide +kernel
theorem pw36 : sch pM 36 = 930248081#32 := by rw [sch_hi _ (by omega), show 36 - 2 = 34 from rfl, show 36 - 7 = 29 from rfl, show 36 - 15 = 21 from rfl, show 36 - 16 = 20 from rfl, pw34, pw29, pw21, pw20]; decide +kernel
theorem pw37 : sch pM 37 = 3774324413#32 := by rw [sch_hi _ (by omega), show 37 - 2 = 35 from rfl, show 37 - 7 = 30 from rfl, show 37 - 15 = 22 from rfl, show 37 - 16 = 21 from rfl, pw35, pw30, pw22, pw21]; decide +kernel
theorem pw38 : sch pM 38 = 4163322022#32 := by rw [sch_hi _ (by omega), show 38 - 2 = 36 from rfl, show 38 - 7 = 31 from rfl, show 38 - 15 = 23 from rfl, show 38 - 16 = 22 from rfl, pw36, pw31, pw23, pw22]; decide +kernel
theorem pw39 : sch pM 39 = 2384455641#32 := by rw [sch_hi _ (by omega), show 39 - 2 = 37 from rfl, show 39 - 7 = 32 from rfl, show 39 - 15 = 24 from rfl, show 39 - 16 = 23 from rfl, pw37, pw32, pw24, pw23]; decide +kernel
theorem pw40 : sch pM 40 = 473634929#32 := by rw [sch_hi _ (by omega), show 40 - 2 = 38 from rfl, show 40 - 7 = 33 from rfl, show 40 - 15 = 25 from rfl, show 40 - 16 = 24 from rfl, pw38, pw33, pw25, pw24]; decide +kernel
theorem pw41 : sch pM 41 = 680040111#32 := by rw [sch_hi _ (by omega), show 41 - 2 = 39 from rfl, show 41 - 7 = 34 from rfl, show 41 - 15 = 26 from rfl, show 41 - 16 = 25 from rfl, pw39, pw34, pw26, pw25]; decide +kernel
theorem pw42 : sch pM 42 = 4240184931#32 := by rw [sch_hi _ (by omega), show 42 - 2 = 40 from rfl, show 42 - 7 = 35 from rfl, show 42 - 15 = 27 from rfl, show 42 - 16 = 26 from rfl, pw40, pw35, pw27, pw26]; decide +kernel
theorem pw43 : sch pM 43 = 2987721572#32 := by rw [sch_hi _ (by omega), show 43 - 2 = 41 from rfl, show 43 - 7 = 36 from rfl, show 43 - 15 = 28 from rfl, show 43 - 16 = 27 from rfl, pw41, pw36, pw28, pw27]; decide +kernel
theorem pw44 : sch pM 44 = 1484767605#32 := by rw [sch_hi _ (by omega), show 44 - 2 = 42 from rfl, show 44 - 7 = 37 from rfl, show 44 - 15 = 29 from rfl, show 44 - 16 = 28 from rfl, pw42, pw37, pw29, pw28]; decide +kernel
theorem pw45 : sch pM 45 = 3566435721#32 := by rw [sch_hi _ (by omega), show 45 - 2 = 43 from rfl, show 45 - 7 = 38 from rfl, show 45 - 15 = 30 from rfl, show 45 - 16 = 29 from rfl, pw43, pw38, pw30, pw29]; decide +kernel
theorem pw46 : sch pM 46 = 977784903#32 := by rw [sch_hi _ (by omega), show 46 - 2 = 44 from rfl, show 46 - 7 = 39 from rfl, show 46 - 15 = 31 from rfl, show 46 - 16 = 30 from rfl, pw44, pw39, pw31, pw30]; decide +kernel
theorem pw47 : sch pM 47 = 2749989687#32 := by rw [sch_hi _ (by omega), show 47 - 2 = 45 from rfl, show 47 - 7 = 40 from rfl, show 47 - 15 = 32 from rfl, show 47 - 16 = 31 from rfl, pw45, pw40, pw32, pw31]; decide +kernel
theorem pw48 : sch pM 48 = 1269578640#32 := by rw [sch_hi _ (by omega), show 48 - 2 = 46 from rfl, show 48 - 7 = 41 from rfl, show 48 - 15 = 33 from rfl, show 48 - 16 = 32 from rfl, pw46, pw41, pw33, pw32]; decide +kernel
theorem pw49 : sch pM 49 = 1111447013#32 := by rw [sch_hi _ (by omega), show 49 - 2 = 47 from rfl, show 49 - 7 = 42 from rfl, show 49 - 15 = 34 from rfl, show 49 - 16 = 33 from rfl, pw47, pw42, pw34, pw33]; decide +kernel
theorem pw50 : sch pM 50 = 2274658859#32 := by rw [sch_hi _ (by omega), show 50 - 2 = 48 from rfl, show 50 - 7 = 43 from rfl, show 50 - 15 = 35 from rfl, show 50 - 16 = 34 from rfl, pw48, pw43, pw35, pw34]; decide +kernel
theorem pw51 : sch pM 51 = 1716471708#32 := by rw [sch_hi _ (by omega), show 51 - 2 = 49 from rfl, show 51 - 7 = 44 from rfl, show 51 - 15 = 36 from rfl, show 51 - 16 = 35 from rfl, pw49, pw44, pw36, pw35]; decide +kernel
theorem pw52 : sch pM 52 = 1625796107#32 := by rw [sch_hi _ (by omega), show 52 - 2 = 50 from rfl, show 52 - 7 = 45 from rfl, show 52 - 15 = 37 from rfl, show 52 - 16 = 36 from rfl, pw50, pw45, pw37, pw36]; decide +kernel
theorem pw53 : sch pM 53 = 3913331679#32 := by rw [sch_hi _ (by omega), show 53 - 2 = 51 from rfl, show 53 - 7 = 46 from rfl, show 53 - 15 = 38 from rfl, show 53 - 16 = 37 from rfl, pw51, pw46, pw38, pw37]; decide +kernel
theorem pw54 : sch pM 54 = 437733908#32 := by rw [sch_hi _ (by omega), show 54 - 2 = 52 from rfl, show 54 - 7 = 47 from rfl, show 54 - 15 = 39 from rfl, show 54 - 16 = 38 from rfl, pw52, pw47, pw39, pw38]; decide +kernel
theorem pw55 : sch pM 55 = 1360908093#32 := by rw [sch_hi _ (by omega), show 55 - 2 = 53 from rfl, show 55 - 7 = 48 from rfl, show 55 - 15 = 40 from rfl, show 55 - 16 = 39 from rfl, pw53, pw48, pw40, pw39]; decide +kernel
theorem pw56 : sch pM 56 = 699679691#32 := by rw [sch_hi _ (by omega), show 56 - 2 = 54 from rfl, show 56 - 7 = 49 from rfl, show 56 - 15 = 41 from rfl, show 56 - 16 = 40 from rfl, pw54, pw49, pw41, pw40]; decide +kernel
theorem pw57 : sch pM 57 = 3967839367#32 := by rw [sch_hi _ (by omega), show 57 - 2 = 55 from rfl, show 57 - 7 = 50 from rfl, show 57 - 15 = 42 from rfl, show 57 - 16 = 41 from rfl, pw55, pw50, pw42, pw41]; decide +kernel
theorem pw58 : sch pM 58 = 2896273898#32 := by rw [sch_hi _ (by omega), show 58 - 2 = 56 from rfl, show 58 - 7 = 51 from rfl, show 58 - 15 = 43 from rfl, show 58 - 16 = 42 from rfl, pw56, pw51, pw43, pw42]; decide +kernel
theorem pw59 : sch pM 59 = 1623666413#32 := by rw [sch_hi _ (by omega), show 59 - 2 = 57 from rfl, show 59 - 7 = 52 from rfl, show 59 - 15 = 44 from rfl, show 59 - 16 = 43 from rfl, pw57, pw52, pw44, pw43]; decide +kernel
theorem pw60 : sch pM 60 = 4244430190#32 := by rw [sch_hi _ (by omega), show 60 - 2 = 58 from rfl, show 60 - 7 = 53 from rfl, show 60 - 15 = 45 from rfl, show 60 - 16 = 44 from rfl, pw58, pw53, pw45, pw44]; decide +kernel
theorem pw61 : sch pM 61 = 3733696646#32 := by rw [sch_hi _ (by omega), show 61 - 2 = 59 from rfl, show 61 - 7 = 54 from rfl, show 61 - 15 = 46 from rfl, show 61 - 16 = 45 from rfl, pw59, pw54, pw46, pw45]; decide +kernel
theorem pw62 : sch pM 62 = 2625784308#32 := by rw [sch_hi _ (by omega), show 62 - 2 = 60 from rfl, show 62 - 7 = 55 from rfl, show 62 - 15 = 47 from rfl, show 62 - 16 = 46 from rfl, pw60, pw55, pw47, pw46]; decide +kernel
theorem pw63 : sch pM 63 = 2735254376#32 := by rw [sch_hi _ (by omega), show 63 - 2 = 61 from rfl, show 63 - 7 = 56 from rfl, show 63 - 15 = 48 from rfl, show 63 - 16 = 47 from rfl, pw61, pw56, pw48, pw47]; decide +kernel
def pV : V8 := ⟨1779033703#32, 3144134277#32, 1013904242#32, 2773480762#32, 1359893119#32, 2600822924#32, 528734635#32, 1541459225#32⟩
theorem ps0 : steps pM pV 0 = ⟨1779033703#32, 3144134277#32, 1013904242#32, 2773480762#32, 1359893119#32, 2600822924#32, 528734635#32, 1541459225#32⟩ := rfl
theorem ps1 : steps pM pV 1 = ⟨4245194829#32, 1779033703#32, 3144134277#32, 1013904242#32, 2580013730#32, 1359893119#32, 2600822924#32, 528734635#32⟩ := by
  show step (steps pM pV 0) (kL.getD 0 0) (sch pM 0) = _
  rw [ps0, pw0]
  kernel_rfl
theorem ps2 : steps pM pV 2 = ⟨4221405836#32, 4245194829#32, 1779033703#32, 3144134277#32, 502649366#32, 2580013730#32, 1359893119#32, 2600822924#32⟩ := by
  show step (steps pM pV 1) (kL.getD 1 0) (sch pM 1) = _
  rw [ps1, pw1]
  kernel_rfl
theorem ps3 : steps pM pV 3 = ⟨2728894896#32, 4221405836#32, 4245194829#32, 1779033703#32, 1180383303#32, 502649366#32, 2580013730#32, 1359893119#32⟩ := by
  show step (steps pM pV 2) (kL.getD 2 0) (sch pM 2) = _
  rw [ps2, pw2]
  kernel_rfl
theorem ps4 : steps pM pV 4 = ⟨3359591766#32, 2728894896#32, 4221405836#32, 4245194829#32, 2064739158#32, 1180383303#32, 502649366#32, 2580013730#32⟩ := by
  show step (steps pM pV 3) (kL.getD 3 0) (sch pM 3) = _
  rw [ps3, pw3]
  kernel_rfl
theorem ps5 : steps pM pV 5 = ⟨3858185507#32, 3359591766#32, 2728894896#32, 4221405836#32, 3534975565#32, 2064739158#32, 1180383303#32, 502649366#32⟩ := by
  show step (steps pM pV 4) (kL.getD 4 0) (sch pM 4) = _
  rw [ps4, pw4]
  kernel_rfl
theorem ps6 : steps pM pV 6 = ⟨2732042291#32, 3858185507#32, 3359591766#32, 2728894896#32, 4045903399#32, 3534975565#32, 2064739158#32, 1180383303#32⟩ := by
  show step (steps pM pV 5) (kL.getD 5 0) (sch pM 5) = _
  rw [ps5, pw5]
  kernel_rfl
theorem ps7 : steps pM pV 7 = ⟨1413431039#32, 2732042291#32, 3858185507#32, 3359591766#32, 510099778#32, 4045903399#32, 3534975565#32, 2064739158#32⟩ := by
  show step (steps pM pV 6) (kL.getD 6 0) (sch pM 6) = _
  rw [ps6, pw6]
  kernel_rfl
theorem ps8 : steps pM pV 8 = ⟨3454435197#32, 1413431039#32, 2732042291#32, 3858185507#32, 3542089098#32, 510099778#32, 4045903399#32, 3534975565#32⟩ := by
  show step (steps pM pV 7) (kL.getD 7 0) (sch pM 7) = _
  rw [ps7, pw7]
  kernel_rfl
theorem ps9 : steps pM pV 9 = ⟨3375153094#32, 3454435197#32, 1413431039#32, 2732042291#32, 3636639375#32, 3542089098#32, 510099778#32, 4045903399#32⟩ := by
  show step (steps pM pV 8) (kL.getD 8 0) (sch pM 8) = _
  rw [ps8, pw8]
  kernel_rfl
theorem ps10 : steps pM pV 10 = ⟨893894913#32, 3375153094#32, 3454435197#32, 1413431039#32, 208579461#32, 3636639375#32, 3542089098#32, 510099778#32⟩ := by
  show step (steps pM pV 9) (kL.getD 9 0) (sch pM 9) = _
  rw [ps9, pw9]
  kernel_rfl
theorem ps11 : steps pM pV 11 = ⟨2574668156#32, 893894913#32, 3375153094#32, 3454435197#32, 3320984203#32, 208579461#32, 3636639375#32, 3542089098#32⟩ := by
  show step (steps pM pV 10) (kL.getD 10 0) (sch pM 10) = _
  rw [ps10, pw10]
  kernel_rfl
theorem ps12 : steps pM pV 12 = ⟨3664303116#32, 2574668156#32, 893894913#32, 3375153094#32, 2582369469#32, 3320984203#32, 208579461#32, 3636639375#32⟩ := by
  show step (steps pM pV 11) (kL.getD 11 0) (sch pM 11) = _
  rw [ps11, pw11]
  kernel_rfl
theorem ps13 : steps pM pV 13 = ⟨884589224#32, 3664303116#32, 2574668156#32, 893894913#32, 785570870#32, 2582369469#32, 3320984203#32, 208579461#32⟩ := by
  show step (steps pM pV 12) (kL.getD 12 0) (sch pM 12) = _
  rw [ps12, pw12]
  kernel_rfl
theorem ps14 : steps pM pV 14 = ⟨639575262#32, 884589224#32, 3664303116#32, 2574668156#32, 3280510973#32, 785570870#32, 2582369469#32, 3320984203#32⟩ := by
  show step (steps pM pV 13) (kL.getD 13 0) (sch pM 13) = _
  rw [ps13, pw13]
  kernel_rfl
theorem ps15 : steps pM pV 15 = ⟨1405814997#32, 639575262#32, 884589224#32, 3664303116#32, 3810661487#32, 3280510973#32, 785570870#32, 2582369469#32⟩ := by
  show step (steps pM pV 14) (kL.getD 14 0) (sch pM 14) = _
  rw [ps14, pw14]
  kernel_rfl
theorem ps16 : steps pM pV 16 = ⟨1139378758#32, 1405814997#32, 639575262#32, 884589224#32, 2839303252#32, 3810661487#32, 3280510973#32, 785570870#32⟩ := by
  show step (steps pM pV 15) (kL.getD 15 0) (sch pM 15) = _
  rw [ps15, pw15]
  kernel_rfl
theorem ps17 : steps pM pV 17 = ⟨3872937755#32, 1139378758#32, 1405814997#32, 639575262#32, 1927654427#32, 2839303252#32, 3810661487#32, 3280510973#32⟩ := by
  show step (steps pM pV 16) (kL.getD 16 0) (sch pM 16) = _
  rw [ps16, pw16]
  kernel_rfl
theorem ps18 : steps pM pV 18 = ⟨1439308457#32, 3872937755#32, 1139378758#32, 1405814997#32, 401270929#32, 1927654427#32, 2839303252#32, 3810661487#32⟩ := by
  show step (steps pM pV 17) (kL.getD 17 0) (sch pM 17) = _
  rw [ps17, pw17]
  kernel_rfl
theorem ps19 : steps pM pV 19 = ⟨3831264663#32, 1439308457#32, 3872937755#32, 1139378758#32, 1208800948#32, 401270929#32, 1927654427#32, 2839303252#32⟩ := by
  show step (steps pM pV 18) (kL.getD 18 0) (sch pM 18) = _
  rw [ps18, pw18]
  kernel_rfl
theorem ps20 : steps pM pV 20 = ⟨3947641337#32, 3831264663#32, 1439308457#32, 3872937755#32, 635374733#32, 1208800948#32, 401270929#32, 1927654427#32⟩ := by
  show step (steps pM pV 19) (kL.getD 19 0) (sch pM 19) = _
  rw [ps19, pw19]
  kernel_rfl
theorem ps21 : steps pM pV 21 = ⟨2436721174#32, 3947641337#32, 3831264663#32, 1439308457#32, 214815686#32, 635374733#32, 1208800948#32, 401270929#32⟩ := by
  show step (steps pM pV 20) (kL.getD 20 0) (sch pM 20) = _
  rw [ps20, pw20]
  kernel_rfl
theorem ps22 : steps pM pV 22 = ⟨2855349937#32, 2436721174#32, 3947641337#32, 3831264663#32, 491472537#32, 214815686#32, 635374733#32, 1208800948#32⟩ := by
  show step (steps pM pV 21) (kL.getD 21 0) (sch pM 21) = _
  rw [ps21, pw21]
  kernel_rfl
theorem ps23 : steps pM pV 23 = ⟨74390827#32, 2855349937#32, 2436721174#32, 3947641337#32, 1641188228#32, 491472537#32, 214815686#32, 635374733#32⟩ := by
  show step (steps pM pV 22) (kL.getD 22 0) (sch pM 22) = _
  rw [ps22, pw22]
  kernel_rfl
theorem ps24 : steps pM pV 24 = ⟨3815528398#32, 74390827#32, 2855349937#32, 2436721174#32, 3125025649#32, 1641188228#32, 491472537#32, 214815686#32⟩ := by
  show step (steps pM pV 23) (kL.getD 23 0) (sch pM 23) = _
  rw [ps23, pw23]
  kernel_rfl
theorem ps25 : steps pM pV 25 = ⟨1663701654#32, 3815528398#32, 74390827#32, 2855349937#32, 2584160229#32, 3125025649#32, 1641188228#32, 491472537#32⟩ := by
  show step (steps pM pV 24) (kL.getD 24 0) (sch pM 24) = _
  rw [ps24, pw24]
  kernel_rfl
theorem ps26 : steps pM pV 26 = ⟨1625614470#32, 1663701654#32, 3815528398#32, 74390827#32, 57948976#32, 2584160229#32, 3125025649#32, 1641188228#32⟩ := by
  show step (steps pM pV 25) (kL.getD 25 0) (sch pM 25) = _
  rw [ps25, pw25]
  kernel_rfl
theorem ps27 : steps pM pV 27 = ⟨1951127280#32, 1625614470#32, 1663701654#32, 3815528398#32, 3316022544#32, 57948976#32, 2584160229#32, 3125025649#32⟩ := by
  show step (steps pM pV 26) (kL.getD 26 0) (sch pM 26) = _
  rw [ps26, pw26]
  kernel_rfl
theorem ps28 : steps pM pV 28 = ⟨1334058059#32, 1951127280#32, 1625614470#32, 1663701654#32, 1287326544#32, 3316022544#32, 57948976#32, 2584160229#32⟩ := by
  show step (steps pM pV 27) (kL.getD 27 0) (sch pM 27) = _
  rw [ps27, pw27]
  kernel_rfl
theorem ps29 : steps pM pV 29 = ⟨3716006966#32, 1334058059#32, 1951127280#32, 1625614470#32, 3122177022#32, 1287326544#32, 3316022544#32, 57948976#32⟩ := by
  show step (steps pM pV 28) (kL.getD 28 0) (sch pM 28) = _
  rw [ps28, pw28]
  kernel_rfl
theorem ps30 : steps pM pV 30 = ⟨100595357#32, 3716006966#32, 1334058059#32, 1951127280#32, 2812070171#32, 3122177022#32, 1287326544#32, 3316022544#32⟩ := by
  show step (steps pM pV 29) (kL.getD 29 0) (sch pM 29) = _
  rw [ps29, pw29]
  kernel_rfl
theorem ps31 : steps pM pV 31 = ⟨98334860#32, 100595357#32, 3716006966#32, 1334058059#32, 501060886#32, 2812070171#32, 3122177022#32, 1287326544#32⟩ := by
  show step (steps pM pV 30) (kL.getD 30 0) (sch pM 30) = _
  rw [ps30, pw30]
  kernel_rfl
theorem ps32 : steps pM pV 32 = ⟨2136106173#32, 98334860#32, 100595357#32, 3716006966#32, 333745045#32, 501060886#32, 2812070171#32, 3122177022#32⟩ := by
  show step (steps pM pV 31) (kL.getD 31 0) (sch pM 31) = _
  rw [ps31, pw31]
  kernel_rfl
theorem ps33 : steps pM pV 33 = ⟨3852595427#32, 2136106173#32, 98334860#32, 100595357#32, 2308155963#32, 333745045#32, 501060886#32, 2812070171#32⟩ := by
  show step (steps pM pV 32) (kL.getD 32 0) (sch pM 32) = _
  rw [ps32, pw32]
  kernel_rfl
theorem ps34 : steps pM pV 34 = ⟨3672013809#32, 3852595427#32, 2136106173#32, 98334860#32, 2170037056#32, 2308155963#32, 333745045#32, 501060886#32⟩ := by
  show step (steps pM pV 33) (kL.getD 33 0) (sch pM 33) = _
  rw [ps33, pw33]
  kernel_rfl
theorem ps35 : steps pM pV 35 = ⟨2716825870#32, 3672013809#32, 3852595427#32, 2136106173#32, 3609391429#32, 2170037056#32, 2308155963#32, 333745045#32⟩ := by
  show step (steps pM pV 34) (kL.getD 34 0) (sch pM 34) = _
  rw [ps34, pw34]
  kernel_rfl
theorem ps36 : steps pM pV 36 = ⟨1924337481#32, 2716825870#32, 3672013809#32, 3852595427#32, 841682532#32, 3609391429#32, 2170037056#32, 2308155963#32⟩ := by
  show step (steps pM pV 35) (kL.getD 35 0) (sch pM 35) = _
  rw [ps35, pw35]
  kernel_rfl
theorem ps37 : steps pM pV 37 = ⟨3777396334#32, 1924337481#32, 2716825870#32, 3672013809#32, 3907944584#32, 841682532#32, 3609391429#32, 2170037056#32⟩ := by
  show step (steps pM pV 36) (kL.getD 36 0) (sch pM 36) = _
  rw [ps36, pw36]
  kernel_rfl
theorem ps38 : steps pM pV 38 = ⟨173133341#32, 3777396334#32, 1924337481#32, 2716825870#32, 817995156#32, 3907944584#32, 841682532#32, 3609391429#32⟩ := by
  show step (steps pM pV 37) (kL.getD 37 0) (sch pM 37) = _
  rw [ps37, pw37]
  kernel_rfl
theorem ps39 : steps pM pV 39 = ⟨3455776195#32, 173133341#32, 3777396334#32, 1924337481#32, 2557660004#32, 817995156#32, 3907944584#32, 841682532#32⟩ := by
  show step (steps pM pV 38) (kL.getD 38 0) (sch pM 38) = _
  rw [ps38, pw38]
  kernel_rfl
theorem ps40 : steps pM pV 40 = ⟨189529957#32, 3455776195#32, 173133341#32, 3777396334#32, 4258542287#32, 2557660004#32, 817995156#32, 3907944584#32⟩ := by
  show step (steps pM pV 39) (kL.getD 39 0) (sch pM 39) = _
  rw [ps39, pw39]
  kernel_rfl
theorem ps41 : steps pM pV 41 = ⟨1840238481#32, 189529957#32, 3455776195#32, 173133341#32, 2910002447#32, 4258542287#32, 2557660004#32, 817995156#32⟩ := by
  show step (steps pM pV 40) (kL.getD 40 0) (sch pM 40) = _
  rw [ps40, pw40]
  kernel_rfl
theorem ps42 : steps pM pV 42 = ⟨3427741099#32, 1840238481#32, 189529957#32, 3455776195#32, 4023787739#32, 2910002447#32, 4258542287#32, 2557660004#32⟩ := by
  show step (steps pM pV 41) (kL.getD 41 0) (sch pM 41) = _
  rw [ps41, pw41]
  kernel_rfl
theorem ps43 : steps pM pV 43 = ⟨2766816441#32, 3427741099#32, 1840238481#32, 189529957#32, 2191148217#32, 4023787739#32, 2910002447#32, 4258542287#32⟩ := by
  show step (steps pM pV 42) (kL.getD 42 0) (sch pM 42) = _
  rw [ps42, pw42]
  kernel_rfl
theorem ps44 : steps pM pV 44 = ⟨909485752#32, 2766816441#32, 3427741099#32, 1840238481#32, 1856833397#32, 2191148217#32, 4023787739#32, 2910002447#32⟩ := by
  show step (steps pM pV 43) (kL.getD 43 0) (sch pM 43) = _
  rw [ps43, pw43]
  kernel_rfl
theorem ps45 : steps pM pV 45 = ⟨1547314166#32, 909485752#32, 2766816441#32, 3427741099#32, 916755955#32, 1856833397#32, 2191148217#32, 4023787739#32⟩ := by
  show step (steps pM pV 44) (kL.getD 44 0) (sch pM 44) = _
  rw [ps44, pw44]
  kernel_rfl
theorem ps46 : steps pM pV 46 = ⟨4146430067#32, 1547314166#32, 909485752#32, 2766816441#32, 788977418#32, 916755955#32, 1856833397#32, 2191148217#32⟩ := by
  show step (steps pM pV 45) (kL.getD 45 0) (sch pM 45) = _
  rw [ps45, pw45]
  kernel_rfl
theorem ps47 : steps pM pV 47 = ⟨1086134379#32, 4146430067#32, 1547314166#32, 909485752#32, 119186246#32, 788977418#32, 916755955#32, 1856833397#32⟩ := by
  show step (steps pM pV 46) (kL.getD 46 0) (sch pM 46) = _
  rw [ps46, pw46]
  kernel_rfl
theorem ps48 : steps pM pV 48 = ⟨2475089164#32, 1086134379#32, 4146430067#32, 1547314166#32, 2389349473#32, 119186246#32, 788977418#32, 916755955#32⟩ := by
  show step (steps pM pV 47) (kL.getD 47 0) (sch pM 47) = _
  rw [ps47, pw47]
  kernel_rfl
theorem ps49 : steps pM pV 49 = ⟨2916966221#32, 2475089164#32, 1086134379#32, 4146430067#32, 1585500573#32, 2389349473#32, 119186246#32, 788977418#32⟩ := by
  show step (steps pM pV 48) (kL.getD 48 0) (sch pM 48) = _
  rw [ps48, pw48]
  kernel_rfl
theorem ps50 : steps pM pV 50 = ⟨190174728#32, 2916966221#32, 2475089164#32, 1086134379#32, 2625038752#32, 1585500573#32, 2389349473#32, 119186246#32⟩ := by
  show step (steps pM pV 49) (kL.getD 49 0) (sch pM 49) = _
  rw [ps49, pw49]
  kernel_rfl
theorem ps51 : steps pM pV 51 = ⟨3535400384#32, 190174728#32, 2916966221#32, 2475089164#32, 2715031582#32, 2625038752#32, 1585500573#32, 2389349473#32⟩ := by
  show step (steps pM pV 50) (kL.getD 50 0) (sch pM 50) = _
  rw [ps50, pw50]
  kernel_rfl
theorem ps52 : steps pM pV 52 = ⟨3827078435#32, 3535400384#32, 190174728#32, 2916966221#32, 782607602#32, 2715031582#32, 2625038752#32, 1585500573#32⟩ := by
  show step (steps pM pV 51) (kL.getD 51 0) (sch pM 51) = _
  rw [ps51, pw51]
  kernel_rfl
theorem ps53 : steps pM pV 53 = ⟨2448584665#32, 3827078435#32, 3535400384#32, 190174728#32, 1533374442#32, 782607602#32, 2715031582#32, 2625038752#32⟩ := by
  show step (steps pM pV 52) (kL.getD 52 0) (sch pM 52) = _
  rw [ps52, pw52]
  kernel_rfl
theorem ps54 : steps pM pV 54 = ⟨161409249#32, 2448584665#32, 3827078435#32, 3535400384#32, 1898733318#32, 1533374442#32, 782607602#32, 2715031582#32⟩ := by
  show step (steps pM pV 53) (kL.getD 53 0) (sch pM 53) = _
  rw [ps53, pw53]
  kernel_rfl
theorem ps55 : steps pM pV 55 = ⟨3871249676#32, 161409249#32, 2448584665#32, 3827078435#32, 3104645634#32, 1898733318#32, 1533374442#32, 782607602#32⟩ := by
  show step (steps pM pV 54) (kL.getD 54 0) (sch pM 54) = _
  rw [ps54, pw54]
  kernel_rfl
theorem ps56 : steps pM pV 56 = ⟨349952370#32, 3871249676#32, 161409249#32, 2448584665#32, 194829727#32, 3104645634#32, 1898733318#32, 1533374442#32⟩ := by
  show step (steps pM pV 55) (kL.getD 55 0) (sch pM 55) = _
  rw [ps55, pw55]
  kernel_rfl
theorem ps57 : steps pM pV 57 = ⟨2597943870#32, 349952370#32, 3871249676#32, 161409249#32, 107575270#32, 194829727#32, 3104645634#32, 1898733318#32⟩ := by
  show step (steps pM pV 56) (kL.getD 56 0) (sch pM 56) = _
  rw [ps56, pw56]
  kernel_rfl
theorem ps58 : steps pM pV 58 = ⟨2336713697#32, 2597943870#32, 349952370#32, 3871249676#32, 3948939605#32, 107575270#32, 194829727#32, 3104645634#32⟩ := by
  show step (steps pM pV 57) (kL.getD 57 0) (sch pM 57) = _
  rw [ps57, pw57]
  kernel_rfl
theorem ps59 : steps pM pV 59 = ⟨1976949503#32, 2336713697#32, 2597943870#32, 349952370#32, 2705780139#32, 3948939605#32, 107575270#32, 194829727#32⟩ := by
  show step (steps pM pV 58) (kL.getD 58 0) (sch pM 58) = _
  rw [ps58, pw58]
  kernel_rfl
theorem ps60 : steps pM pV 60 = ⟨1389801817#32, 1976949503#32, 2336713697#32, 2597943870#32, 1844963846#32, 2705780139#32, 3948939605#32, 107575270#32⟩ := by
  show step (steps pM pV 59) (kL.getD 59 0) (sch pM 59) = _
  rw [ps59, pw59]
  kernel_rfl
theorem ps61 : steps pM pV 61 = ⟨2995649701#32, 1389801817#32, 1976949503#32, 2336713697#32, 1960123202#32, 1844963846#32, 2705780139#32, 3948939605#32⟩ := by
  show step (steps pM pV 60) (kL.getD 60 0) (sch pM 60) = _
  rw [ps60, pw60]
  kernel_rfl
theorem ps62 : steps pM pV 62 = ⟨2423716846#32, 2995649701#32, 1389801817#32, 1976949503#32, 3932942662#32, 1960123202#32, 1844963846#32, 2705780139#32⟩ := by
  show step (steps pM pV 61) (kL.getD 61 0) (sch pM 61) = _
  rw [ps61, pw61]
  kernel_rfl
theorem ps63 : steps pM pV 63 = ⟨2625747360#32, 2423716846#32, 2995649701#32, 1389801817#32, 3740930981#32, 3932942662#32, 1960123202#32, 1844963846#32⟩ := by
  show step (steps pM pV 62) (kL.getD 62 0) (sch pM 62) = _
  rw [ps62, pw62]
  kernel_rfl
theorem ps64 : steps pM pV 64 = ⟨3723693892#32, 2625747360#32, 2423716846#32, 2995649701#32, 3011624674#32, 3740930981#32, 3932942662#32, 1960123202#32⟩ := by
  show step (steps pM pV 63) (kL.getD 63 0) (sch pM 63) = _
  rw [ps63, pw63]
  kernel_rfl
theorem b55_run : run (pad b55L) 1 = ⟨1207760299#32, 1474914341#32, 3437621088#32, 1474163167#32, 76550497#32, 2046786609#32, 166710001#32, 3501582427#32⟩ := by
  rw [b55_pad]
  show add8 pV (steps pM pV 64) = _
  rw [ps64]
  rfl
theorem b55_sum : sum b55L = [71#8, 252#8, 245#8, 171#8, 87#8, 233#8, 104#8, 37#8, 204#8, 229#8, 239#8, 96#8, 87#8, 221#8, 241#8, 223#8, 4#8, 144#8, 17#8, 97#8, 121#8, 255#8, 124#8, 49#8, 9#8, 239#8, 202#8, 241#8, 208#8, 181#8, 232#8, 91#8] := by
  have e : sum b55L = out ⟨1207760299#32, 1474914341#32, 3437621088#32, 1474163167#32, 76550497#32, 2046786609#32, 166710001#32, 3501582427#32⟩ := by
    unfold sum
    rw [show (pad b55L).length / 64 = 1 by rw [b55_pad]; rfl, b55_run]
  rw [e]
  decide +kernel
def b32L : List (BitVec 8) := [71#8, 252#8, 245#8, 171#8, 87#8, 233#8, 104#8, 37#8, 204#8, 229#8, 239#8, 96#8, 87#8, 221#8, 241#8, 223#8, 4#8, 144#8, 17#8, 97#8, 121#8, 255#8, 124#8, 49#8, 9#8, 239#8, 202#8, 241#8, 208#8, 181#8, 232#8, 91#8]
theorem b32_pad : pad b32L = [71#8, 252#8, 245#8, 171#8, 87#8, 233#8, 104#8, 37#8, 204#8, 229#8, 239#8, 96#8, 87#8, 221#8, 241#8, 223#8, 4#8, 144#8, 17#8, 97#8, 121#8, 255#8, 124#8, 49#8, 9#8, 239#8, 202#8, 241#8, 208#8, 181#8, 232#8, 91#8, 128#8, 0#8, 0#8, 0#8, 0#8, 0#8, 0#8, 0#8, 0#8, 0#8, 0#8, 0#8, 0#8, 0#8, 0#8, 0#8, 0#8, 0#8, 0#8, 0#8, 0#8, 0#8, 0#8, 0#8, 0#8, 0#8, 0#8, 0#8, 0#8, 0#8, 1#8, 0#8] := by decide +kernel
def qM : Nat → BitVec 32 := blk [71#8, 252#8, 245#8, 171#8, 87#8, 233#8, 104#8, 37#8, 204#8, 229#8, 239#8, 96#8, 87#8, 221#8, 241#8, 223#8, 4#8, 144#8, 17#8, 97#8, 121#8, 255#8, 124#8, 49#8, 9#8, 239#8, 202#8, 241#8, 208#8, 181#8, 232#8, 91#8, 128#8, 0#8, 0#8, 0#8, 0#8, 0#8, 0#8, 0#8, 0#8, 0#8, 0#8, 0#8, 0#8, 0#8, 0#8, 0#8, 0#8, 0#8, 0#8, 0#8, 0#8, 0#8, 0#8, 0#8, 0#8, 0#8, 0#8, 0#8, 0#8, 0#8, 1#8, 0#8] 0
theorem qw0 : sch qM 0 = 1207760299#32 := by rw [sch_lo _ (by omega)]; decide +kernel
theorem qw1 : sch qM 1 = 1474914341#32 := by rw [sch_lo _ (by omega)]; decide +kernel
theorem qw2 : sch qM 2 = 3437621088#32 := by rw [sch_lo _ (by omega)]; decide +kernel
theorem qw3 : sch qM 3 = 1474163167#32 := by rw [sch_lo _ (by omega)]; decide +kernel
theorem qw4 : sch qM 4 = 76550497#32 := by rw [sch_lo _ (by omega)]; decide +kernel
theorem qw5 : sch qM 5 = 2046786609#32 := by rw [sch_lo _ (by omega)]; decide +kernel
theorem qw6 : sch qM 6 = 166710001#32 := by rw [sch_lo _ (by omega)]; decide +kernel
theorem qw7 : sch qM 7 = 3501582427#32 := by rw [sch_lo _ (by omega)]; decide +kernel
theorem qw8 : sch qM 8 = 2147483648#32 := by rw [sch_lo _ (by omega)]; decide +kernel
theorem qw9 : sch qM 9 = 0#32 := by rw [sch_lo _ (by omega)]; decide +kernel
theorem qw10 : sch qM 10 = 0#32 := by rw [sch_lo _ (by omega)]; decide +kernel
theorem qw11 : sch qM 11 = 0#32 := by rw [sch_lo _ (by omega)]; decide +kernel
theorem qw12 : sch qM 12 = 0#32 := by rw [sch_lo _ (by omega)]; decide +kernel
theorem qw13 : sch qM 13 = 0#32 := by rw [sch_lo _ (by omega)]; decide +kernel
theorem qw14 : sch qM 14 = 0#32 := by rw [sch_lo _ (by omega)]; decide +kernel
theorem qw15 : sch qM 15 = 256#32 := by rw [sch_lo _ (by omega)]; decide +kernel
theorem qw16 : sch qM 16 = 1649975257#32 := by rw [sch_hi _ (by omega), show 16 - 2 = 14 from rfl, show 16 - 7 = 9 from rfl, show 16 - 15 = 1 from rfl, show 16 - 16 = 0 from rfl, qw14, qw9, qw1, qw0]; decide +kernel
theorem qw17 : sch qM 17 = 4234587440#32 := by rw [sch_hi _ (by omega), show 17 - 2 = 15 from rfl, show 17 - 7 = 10 from rfl, show 17 - 15 = 2 from rfl, show 17 - 16 = 1 from rfl, qw15, qw10, qw2, qw1]; decide +kernel
theorem qw18 : sch qM 18 = 4044933839#32 := by rw [sch_hi _ (by omega), show 18 - 2 = 16 from rfl, show 18 - 7 = 11 from rfl, show 18 - 15 = 3 from rfl, show 18 - 16 = 2 from rfl, qw16, qw11, qw3, qw2]; decide +kernel
theorem qw19 : sch qM 19 = 2711801117#32 := by rw [sch_hi _ (by omega), show 19 - 2 = 17 from rfl, show 19 - 7 = 12 from rfl, show 19 - 15 = 4 from rfl, show 19 - 16 = 3 from rfl, qw17, qw12, qw4, qw3]; decide +kernel
theorem qw20 : sch qM 20 = 861053183#32 := by rw [sch_hi _ (by omega), show 20 - 2 = 18 from rfl, show 20 - 7 = 13 from rfl, show 20 - 15 = 5 from rfl, show 20 - 16 = 4 from rfl, qw18, qw13, qw5, qw4]; decide +kernel
theorem qw21 : sch qM 21 = 3398888759#32 := by rw [sch_hi _ (by omega), show 21 - 2 = 19 from rfl, show 21 - 7 = 14 from rfl, show 21 - 15 = 6 from rfl, show 21 - 16 = 5 from rfl, qw19, qw14, qw6, qw5]; decide +kernel
theorem qw22 : sch qM 22 = 3858602578#32 := by rw [sch_hi _ (by omega), show 22 - 2 = 20 from rfl, show 22 - 7 = 15 from rfl, show 22 - 15 = 7 from rfl, show 22 - 16 = 6 from rfl, qw20, qw15, qw7, qw6]; decide +kernel
theorem qw23 : sch qM 23 = 4011745750#32 := by rw [sch_hi _ (by omega), show 23 - 2 = 21 from rfl, show 23 - 7 = 16 from rfl, show 23 - 15 = 8 from rfl, show 23 - 16 = 7 from rfl, qw21, qw16, qw8, qw7]; decide +kernel
theorem qw24 : sch qM 24 = 4206952023#32 := by rw [sch_hi _ (by omega), show 24 - 2 = 22 from rfl, show 24 - 7 = 17 from rfl, show 24 - 15 = 9 from rfl, show 24 - 16 = 8 from rfl, qw22, qw17, qw9, qw8]; decide +kernel
theorem qw25 : sch qM 25 = 3993188547#32 := by rw [sch_hi _ (by omega), show 25 - 2 = 23 from rfl, show 25 - 7 = 18 from rfl, show 25 - 15 = 10 from rfl, show 25 - 16 = 9 from rfl, qw23, qw18, qw10, qw9]; decide +kernel
theorem qw26 : sch qM 26 = 42106660#32 := by rw [sch_hi _ (by omega), show 26 - 2 = 24 from rfl, show 26 - 7 = 19 from rfl, show 26 - 15 = 11 from rfl, show 26 - 16 = 10 from rfl, qw24, qw19, qw11, qw10]; decide +kernel
theorem qw27 : sch qM 27 = 781495054#32 := by rw [sch_hi _ (by omega), show 27 - 2 = 25 from rfl, show 27 - 7 = 20 from rfl, show 27 - 15 = 12 from rfl, show 27 - 16 = 11 from rfl, qw25, qw20, qw12, qw11]; decide +kernel
theorem qw28 : sch qM 28 = 990711493#32 := by rw [sch_hi _ (by omega), show 28 - 2 = 26 from rfl, show 28 - 7 = 21 from rfl, show 28 - 15 = 13 from rfl, show 28 - 16 = 12 from rfl, qw26, qw21, qw13, qw12]; decide +kernel
theorem qw29 : sch qM 29 = 2800423428#32 := by rw [sch_hi _ (by omega), show 29 - 2 = 27 from rfl, show 29 - 7 = 22 from rfl, show 29 - 15 = 14 from rfl, show 29 - 16 = 13 from rfl, qw27, qw22, qw14, qw13]; decide +kernel
theorem qw30 : sch qM 30 = 370367388#32 := by rw [sch_hi _ (by omega), show 30 - 2 = 28 from rfl, show 30 - 7 = 23 from rfl, show 30 - 15 = 15 from rfl, show 30 - 16 = 14 from rfl, qw28, qw23, qw15, qw14]; decide +kernel
theorem qw31 : sch qM 31 = 2141615893#32 := by rw [sch_hi _ (by omega), show 31 - 2 = 29 from rfl, show 31 - 7 = 24 from rfl, show 31 - 15 = 16 from rfl, show 31 - 16 = 15 from rfl, qw29, qw24, qw16, qw15]; decide +kernel
theorem qw32 : sch qM 32 = 3964407198#32 := by rw [sch_hi _ (by omega), show 32 - 2 = 30 from rfl, show 32 - 7 = 25 from rfl, show 32 - 15 = 17 from rfl, show 32 - 16 = 16 from rfl, qw30, qw25, qw17, qw16]; decide +kernel
theorem qw33 : sch qM 33 = 2815687320#32 := by rw [sch_hi _ (by omega), show 33 - 2 = 31 from rfl, show 33 - 7 = 26 from rfl, show 33 - 15 = 18 from rfl, show 33 - 16 = 17 from rfl, qw31, qw26, qw18, qw17]; decide +kernel
theorem qw34 : sch qM 34 = 1126539994#32 := by rw [sch_hi _ (by omega), show 34 - 2 = 32 from rfl, show 34 - 7 = 27 from rfl, show 34 - 15 = 19 from rfl, show 34 - 16 = 18 from rfl, qw32, qw27, qw19, qw18]; decide +kernel
theorem qw35 : sch qM 35 = 2937703769#32 := by rw [sch_hi _ (by omega), show 35 - 2 = 33 from rfl, show 35 - 7 = 28 from rfl, show 35 - 15 = 20 from rfl, show 35 - 16 = 19 from rfl, qw33, qw28, qw20, qw19]; decide +kernel
theorem qw36 : sch qM 36 = 216946298#32 := by rw [sch_hi _ (by omega), show 36 - 2 = 34 from rfl, show 36 - 7 = 29 from rfl, show 36 - 15 = 21 from rfl, show 36 - 16 = 20 from rfl, qw34, qw29, qw21, qw20]; decide +kernel
theorem qw37 : sch qM 37 = 2679594480#32 := by rw [sch_hi _ (by omega), show 37 - 2 = 35 from rfl, show 37 - 7 = 30 from rfl, show 37 - 15 = 22 from rfl, show 37 - 16 = 21 from rfl, qw35, qw30, qw22, qw21]; decide +kernel
theorem qw38 : sch qM 38 = 1876810020#32 := by rw [sch_hi _ (by omega), show 38 - 2 = 36 from rfl, show 38 - 7 = 31 from rfl, show 38 - 15 = 23 from rfl, show 38 - 16 = 22 from rfl, qw36, qw31, qw23, qw22]; decide +kernel
theorem qw39 : sch qM 39 = 2953085428#32 := by rw [sch_hi _ (by omega), show 39 - 2 = 37 from rfl, show 39 - 7 = 32 from rfl, show 39 - 15 = 24 from rfl, show 39 - 16 = 23 from rfl, qw37, qw32, qw24, qw23]; decide +kernel
theorem qw40 : sch qM 40 = 1315889467#32 := by rw [sch_hi _ (by omega), show 40 - 2 = 38 from rfl, show 40 - 7 = 33 from rfl, show 40 - 15 = 25 from rfl, show 40 - 16 = 24 from rfl, qw38, qw33, qw25, qw24]; decide +kernel
theorem qw41 : sch qM 41 = 3652056697#32 := by rw [sch_hi _ (by omega), show 41 - 2 = 39 from rfl, show 41 - 7 = 34 from rfl, show 41 - 15 = 26 from rfl, show 41 - 16 = 25 from rfl, qw39, qw34, qw26, qw25]; decide +kernel
theorem qw42 : sch qM 42 = 2442254673#32 := by rw [sch_hi _ (by omega), show 42 - 2 = 40 from rfl, show 42 - 7 = 35 from rfl, show 42 - 15 = 27 from rfl, show 42 - 16 = 26 from rfl, qw40, qw35, qw27, qw26]; decide +kernel
theorem qw43 : sch qM 43 = 1341109036#32 := by rw [sch_hi _ (by omega), show 43 - 2 = 41 from rfl, show 43 - 7 = 36 from rfl, show 43 - 15 = 28 from rfl, show 43 - 16 = 27 from rfl, qw41, qw36, qw28, qw27]; decide +kernel
theorem qw44 : sch qM 44 = 2340202783#32 := by rw [sch_hi _ (by omega), show 44 - 2 = 42 from rfl, show 44 - 7 = 37 from rfl, show 44 - 15 = 29 from rfl, show 44 - 16 = 28 from rfl, qw42, qw37, qw29, qw28]; decide +kernel
theorem qw45 : sch qM 45 = 850561358#32 := by rw [sch_hi _ (by omega), show 45 - 2 = 43 from rfl, show 45 - 7 = 38 from rfl, show 45 - 15 = 30 from rfl, show 45 - 16 = 29 from rfl, qw43, qw38, qw30, qw29]; decide +kernel
theorem qw46 : sch qM 46 = 1081452400#32 := by rw [sch_hi _ (by omega), show 46 - 2 = 44 from rfl, show 46 - 7 = 39 from rfl, show 46 - 15 = 31 from rfl, show 46 - 16 = 30 from rfl, qw44, qw39, qw31, qw30]; decide +kernel
theorem qw47 : sch qM 47 = 114192056#32 := by rw [sch_hi _ (by omega), show 47 - 2 = 45 from rfl, show 47 - 7 = 40 from rfl, show 47 - 15 = 32 from rfl, show 47 - 16 = 31 from rfl, qw45, qw40, qw32, qw31]; decide +kernel
theorem qw48 : sch qM 48 = 139733702#32 := by rw [sch_hi _ (by omega), show 48 - 2 = 46 from rfl, show 48 - 7 = 41 from rfl, show 48 - 15 = 33 from rfl, show 48 - 16 = 32 from rfl, qw46, qw41, qw33, qw32]; decide +kernel
theorem qw49 : sch qM 49 = 138736613#32 := by rw [sch_hi _ (by omega), show 49 - 2 = 47 from rfl, show 49 - 7 = 42 from rfl, show 49 - 15 = 34 from rfl, show 49 - 16 = 33 from rfl, qw47, qw42, qw34, qw33]; decide +kernel
theorem qw50 : sch qM 50 = 4181362727#32 := by rw [sch_hi _ (by omega), show 50 - 2 = 48 from rfl, show 50 - 7 = 43 from rfl, show 50 - 15 = 35 from rfl, show 50 - 16 = 34 from rfl, qw48, qw43, qw35, qw34]; decide +kernel
theorem qw51 : sch qM 51 = 2185052134#32 := by rw [sch_hi _ (by omega), show 51 - 2 = 49 from rfl, show 51 - 7 = 44 from rfl, show 51 - 15 = 36 from rfl, show 51 - 16 = 35 from rfl, qw49, qw44, qw36, qw35]; decide +kernel
theorem qw52 : sch qM 52 = 2055196616#32 := by rw [sch_hi _ (by omega), show 52 - 2 = 50 from rfl, show 52 - 7 = 45 from rfl, show 52 - 15 = 37 from rfl, show 52 - 16 = 36 from rfl, qw50, qw45, qw37, qw36]; decide +kernel
theorem qw53 : sch qM 53 = 1271480023#32 := by rw [sch_hi _ (by omega), show 53 - 2 = 51 from rfl, show 53 - 7 = 46 from rfl, show 53 - 15 = 38 from rfl, show 53 - 16 = 37 from rfl, qw51, qw46, qw38, qw37]; decide +kernel
theorem qw54 : sch qM 54 = 1942858395#32 := by rw [sch_hi _ (by omega), show 54 - 2 = 52 from rfl, show 54 - 7 = 47 from rfl, show 54 - 15 = 39 from rfl, show 54 - 16 = 38 from rfl, qw52, qw47, qw39, qw38]; decide +kernel
theorem qw55 : sch qM 55 = 941374986#32 := by rw [sch_hi _ (by omega), show 55 - 2 = 53 from rfl, show 55 - 7 = 48 from rfl, show 55 - 15 = 40 from rfl, show 55 - 16 = 39 from rfl, qw53, qw48, qw40, qw39]; decide +kernel
theorem qw56 : sch qM 56 = 1271827805#32 := by rw [sch_hi _ (by omega), show 56 - 2 = 54 from rfl, show 56 - 7 = 49 from rfl, show 56 - 15 = 41 from rfl, show 56 - 16 = 40 from rfl, qw54, qw49, qw41, qw40]; decide +kernel
theorem qw57 : sch qM 57 = 855136158#32 := by rw [sch_hi _ (by omega), show 57 - 2 = 55 from rfl, show 57 - 7 = 50 from rfl, show 57 - 15 = 42 from rfl, show 57 - 16 = 41 from rfl, qw55, qw50, qw42, qw41]; decide +kernel
theorem qw58 : sch qM 58 = 1754289004#32 := by rw [sch_hi _ (by omega), show 58 - 2 = 56 from rfl, show 58 - 7 = 51 from rfl, show 58 - 15 = 43 from rfl, show 58 - 16 = 42 from rfl, qw56, qw51, qw43, qw42]; decide +kernel
theorem qw59 : sch qM 59 = 4024333016#32 := by rw [sch_hi _ (by omega), show 59 - 2 = 57 from rfl, show 59 - 7 = 52 from rfl, show 59 - 15 = 44 from rfl, show 59 - 16 = 43 from rfl, qw57, qw52, qw44, qw43]; decide +kernel
theorem qw60 : sch qM 60 = 862469595#32 := by rw [sch_hi _ (by omega), show 60 - 2 = 58 from rfl, show 60 - 7 = 53 from rfl, show 60 - 15 = 45 from rfl, show 60 - 16 = 44 from rfl, qw58, qw53, qw45, qw44]; decide +kernel
theorem qw61 : sch qM 61 = 517939502#32 := by rw [sch_hi _ (by omega), show 61 - 2 = 59 from rfl, show 61 - 7 = 54 from rfl, show 61 - 15 = 46 from rfl, show 61 - 16 = 45 from rfl, qw59, qw54, qw46, qw45]; decide +kernel
theorem qw62 : sch qM 62 = 2103860233#32 := by rw [sch_hi _ (by omega), show 62 - 2 = 60 from rfl, show 62 - 7 = 55 from rfl, show 62 - 15 = 47 from rfl, show 62 - 16 = 46 from rfl, qw60, qw55, qw47, qw46]; decide +kernel
theorem qw63 : sch qM 63 = 1325278889#32 := by rw [sch_hi _ (by omega), show 63 - 2 = 61 from rfl, show 63 - 7 = 56 from rfl, show 63 - 15 = 48 from rfl, show 63 - 16 = 47 from rfl, qw61, qw56, qw48, qw47]; decide +kernel
def qV : V8 := ⟨1779033703#32, 3144134277#32, 1013904242#32, 2773480762#32, 1359893119#32, 2600822924#32, 528734635#32, 1541459225#32⟩
theorem qs0 : steps qM qV 0 = ⟨1779033703#32, 3144134277#32, 1013904242#32, 2773480762#32, 1359893119#32, 2600822924#32, 528734635#32, 1541459225#32⟩ := rfl
theorem qs1 : steps qM qV 1 = ⟨1141210616#32, 1779033703#32, 3144134277#32, 1013904242#32, 3770996813#32, 1359893119#32, 2600822924#32, 528734635#32⟩ := by
  show step (steps qM qV 0) (kL.getD 0 0) (sch qM 0) = _
  rw [qs0, qw0]
  kernel_rfl
theorem qs2 : steps qM qV 2 = ⟨4114067810#32, 1141210616#32, 1779033703#32, 3144134277#32, 3698071466#32, 3770996813#32, 1359893119#32, 2600822924#32⟩ := by
  show step (steps qM qV 1) (kL.getD 1 0) (sch qM 1) = _
  rw [qs1, qw1]
  kernel_rfl
theorem qs3 : steps qM qV 3 = ⟨2478461021#32, 4114067810#32, 1141210616#32, 1779033703#32, 41696079#32, 3698071466#32, 3770996813#32, 1359893119#32⟩ := by
  show step (steps qM qV 2) (kL.getD 2 0) (sch qM 2) = _
  rw [qs2, qw2]
  kernel_rfl
theorem qs4 : steps qM qV 4 = ⟨3288202491#32, 2478461021#32, 4114067810#32, 1141210616#32, 1233973855#32, 41696079#32, 3698071466#32, 3770996813#32⟩ := by
  show step (steps qM qV 3) (kL.getD 3 0) (sch qM 3) = _
  rw [qs3, qw3]
  kernel_rfl
theorem qs5 : steps qM qV 5 = ⟨1482723908#32, 3288202491#32, 2478461021#32, 4114067810#32, 3889401827#32, 1233973855#32, 41696079#32, 3698071466#32⟩ := by
  show step (steps qM qV 4) (kL.getD 4 0) (sch qM 4) = _
  rw [qs4, qw4]
  kernel_rfl
theorem qs6 : steps qM qV 6 = ⟨1721394473#32, 1482723908#32, 3288202491#32, 2478461021#32, 2170900282#32, 3889401827#32, 1233973855#32, 41696079#32⟩ := by
  show step (steps qM qV 5) (kL.getD 5 0) (sch qM 5) = _
  rw [qs5, qw5]
  kernel_rfl
theorem qs7 : steps qM qV 7 = ⟨2228840844#32, 1721394473#32, 1482723908#32, 3288202491#32, 3156327805#32, 2170900282#32, 3889401827#32, 1233973855#32⟩ := by
  show step (steps qM qV 6) (kL.getD 6 0) (sch qM 6) = _
  rw [qs6, qw6]
  kernel_rfl
theorem qs8 : steps qM qV 8 = ⟨548975916#32, 2228840844#32, 1721394473#32, 1482723908#32, 2531918432#32, 3156327805#32, 2170900282#32, 3889401827#32⟩ := by
  show step (steps qM qV 7) (kL.getD 7 0) (sch qM 7) = _
  rw [qs7, qw7]
  kernel_rfl
theorem qs9 : steps qM qV 9 = ⟨4168927791#32, 548975916#32, 2228840844#32, 1721394473#32, 3903414075#32, 2531918432#32, 3156327805#32, 2170900282#32⟩ := by
  show step (steps qM qV 8) (kL.getD 8 0) (sch qM 8) = _
  rw [qs8, qw8]
  kernel_rfl
theorem qs10 : steps qM qV 10 = ⟨2185409018#32, 4168927791#32, 548975916#32, 2228840844#32, 3952861035#32, 3903414075#32, 2531918432#32, 3156327805#32⟩ := by
  show step (steps qM qV 9) (kL.getD 9 0) (sch qM 9) = _
  rw [qs9, qw9]
  kernel_rfl
theorem qs11 : steps qM qV 11 = ⟨846549481#32, 2185409018#32, 4168927791#32, 548975916#32, 4048729573#32, 3952861035#32, 3903414075#32, 2531918432#32⟩ := by
  show step (steps qM qV 10) (kL.getD 10 0) (sch qM 10) = _
  rw [qs10, qw10]
  kernel_rfl
theorem qs12 : steps qM qV 12 = ⟨551298843#32, 846549481#32, 2185409018#32, 4168927791#32, 2022483779#32, 4048729573#32, 3952861035#32, 3903414075#32⟩ := by
  show step (steps qM qV 11) (kL.getD 11 0) (sch qM 11) = _
  rw [qs11, qw11]
  kernel_rfl
theorem qs13 : steps qM qV 13 = ⟨2501956204#32, 551298843#32, 846549481#32, 2185409018#32, 3939960572#32, 2022483779#32, 4048729573#32, 3952861035#32⟩ := by
  show step (steps qM qV 12) (kL.getD 12 0) (sch qM 12) = _
  rw [qs12, qw12]
  kernel_rfl
theorem qs14 : steps qM qV 14 = ⟨2475574378#32, 2501956204#32, 551298843#32, 846549481#32, 2952229682#32, 3939960572#32, 2022483779#32, 4048729573#32⟩ := by
  show step (steps qM qV 13) (kL.getD 13 0) (sch qM 13) = _
  rw [qs13, qw13]
  kernel_rfl
theorem qs15 : steps qM qV 15 = ⟨798288642#32, 2475574378#32, 2501956204#32, 551298843#32, 299323227#32, 2952229682#32, 3939960572#32, 2022483779#32⟩ := by
  show step (steps qM qV 14) (kL.getD 14 0) (sch qM 14) = _
  rw [qs14, qw14]
  kernel_rfl
theorem qs16 : steps qM qV 16 = ⟨2858400012#32, 798288642#32, 2475574378#32, 2501956204#32, 3009335012#32, 299323227#32, 2952229682#32, 3939960572#32⟩ := by
  show step (steps qM qV 15) (kL.getD 15 0) (sch qM 15) = _
  rw [qs15, qw15]
  kernel_rfl
theorem qs17 : steps qM qV 17 = ⟨2025089476#32, 2858400012#32, 798288642#32, 2475574378#32, 3323970831#32, 3009335012#32, 299323227#32, 2952229682#32⟩ := by
  show step (steps qM qV 16) (kL.getD 16 0) (sch qM 16) = _
  rw [qs16, qw16]
  kernel_rfl
theorem qs18 : steps qM qV 18 = ⟨1832659071#32, 2025089476#32, 2858400012#32, 798288642#32, 1418442165#32, 3323970831#32, 3009335012#32, 299323227#32⟩ := by
  show step (steps qM qV 17) (kL.getD 17 0) (sch qM 17) = _
  rw [qs17, qw17]
  kernel_rfl
theorem qs19 : steps qM qV 19 = ⟨4035294165#32, 1832659071#32, 2025089476#32, 2858400012#32, 1338562369#32, 1418442165#32, 3323970831#32, 3009335012#32⟩ := by
  show step (steps qM qV 18) (kL.getD 18 0) (sch qM 18) = _
  rw [qs18, qw18]
  kernel_rfl
theorem qs20 : steps qM qV 20 = ⟨3022075563#32, 4035294165#32, 1832659071#32, 2025089476#32, 4052420296#32, 1338562369#32, 1418442165#32, 3323970831#32⟩ := by
  show step (steps qM qV 19) (kL.getD 19 0) (sch qM 19) = _
  rw [qs19, qw19]
  kernel_rfl
theorem qs21 : steps qM qV 21 = ⟨2096380007#32, 3022075563#32, 4035294165#32, 1832659071#32, 619982009#32, 4052420296#32, 1338562369#32, 1418442165#32⟩ := by
  show step (steps qM qV 20) (kL.getD 20 0) (sch qM 20) = _
  rw [qs20, qw20]
  kernel_rfl
theorem qs22 : steps qM qV 22 = ⟨2689448245#32, 2096380007#32, 3022075563#32, 4035294165#32, 1274886786#32, 619982009#32, 4052420296#32, 1338562369#32⟩ := by
  show step (steps qM qV 21) (kL.getD 21 0) (sch qM 21) = _
  rw [qs21, qw21]
  kernel_rfl
theorem qs23 : steps qM qV 23 = ⟨925435239#32, 2689448245#32, 2096380007#32, 3022075563#32, 3689858676#32, 1274886786#32, 619982009#32, 4052420296#32⟩ := by
  show step (steps qM qV 22) (kL.getD 22 0) (sch qM 22) = _
  rw [qs22, qw22]
  kernel_rfl
theorem qs24 : steps qM qV 24 = ⟨696956641#32, 925435239#32, 2689448245#32, 2096380007#32, 1717063512#32, 3689858676#32, 1274886786#32, 619982009#32⟩ := by
  show step (steps qM qV 23) (kL.getD 23 0) (sch qM 23) = _
  rw [qs23, qw23]
  kernel_rfl
theorem qs25 : steps qM qV 25 = ⟨2739737579#32, 696956641#32, 925435239#32, 2689448245#32, 663171490#32, 1717063512#32, 3689858676#32, 1274886786#32⟩ := by
  show step (steps qM qV 24) (kL.getD 24 0) (sch qM 24) = _
  rw [qs24, qw24]
  kernel_rfl
theorem qs26 : steps qM qV 26 = ⟨3332916795#32, 2739737579#32, 696956641#32, 925435239#32, 2815854#32, 663171490#32, 1717063512#32, 3689858676#32⟩ := by
  show step (steps qM qV 25) (kL.getD 25 0) (sch qM 25) = _
  rw [qs25, qw25]
  kernel_rfl
theorem qs27 : steps qM qV 27 = ⟨980853462#32, 3332916795#32, 2739737579#32, 696956641#32, 1823131004#32, 2815854#32, 663171490#32, 1717063512#32⟩ := by
  show step (steps qM qV 26) (kL.getD 26 0) (sch qM 26) = _
  rw [qs26, qw26]
  kernel_rfl
theorem qs28 : steps qM qV 28 = ⟨1206327162#32, 980853462#32, 3332916795#32, 2739737579#32, 2355013495#32, 1823131004#32, 2815854#32, 663171490#32⟩ := by
  show step (steps qM qV 27) (kL.getD 27 0) (sch qM 27) = _
  rw [qs27, qw27]
  kernel_rfl
theorem qs29 : steps qM qV 29 = ⟨1385072344#32, 1206327162#32, 980853462#32, 3332916795#32, 4169105488#32, 2355013495#32, 1823131004#32, 2815854#32⟩ := by
  show step (steps qM qV 28) (kL.getD 28 0) (sch qM 28) = _
  rw [qs28, qw28]
  kernel_rfl
theorem qs30 : steps qM qV 30 = ⟨3946583332#32, 1385072344#32, 1206327162#32, 980853462#32, 1183023101#32, 4169105488#32, 2355013495#32, 1823131004#32⟩ := by
  show step (steps qM qV 29) (kL.getD 29 0) (sch qM 29) = _
  rw [qs29, qw29]
  kernel_rfl
theorem qs31 : steps qM qV 31 = ⟨1147145835#32, 3946583332#32, 1385072344#32, 1206327162#32, 3614165700#32, 1183023101#32, 4169105488#32, 2355013495#32⟩ := by
  show step (steps qM qV 30) (kL.getD 30 0) (sch qM 30) = _
  rw [qs30, qw30]
  kernel_rfl
theorem qs32 : steps qM qV 32 = ⟨4044310259#32, 1147145835#32, 3946583332#32, 1385072344#32, 3561933434#32, 3614165700#32, 1183023101#32, 4169105488#32⟩ := by
  show step (steps qM qV 31) (kL.getD 31 0) (sch qM 31) = _
  rw [qs31, qw31]
  kernel_rfl
theorem qs33 : steps qM qV 33 = ⟨1051771959#32, 4044310259#32, 1147145835#32, 3946583332#32, 3108744874#32, 3561933434#32, 3614165700#32, 1183023101#32⟩ := by
  show step (steps qM qV 32) (kL.getD 32 0) (sch qM 32) = _
  rw [qs32, qw32]
  kernel_rfl
theorem qs34 : steps qM qV 34 = ⟨1852315570#32, 1051771959#32, 4044310259#32, 1147145835#32, 3095318002#32, 3108744874#32, 3561933434#32, 3614165700#32⟩ := by
  show step (steps qM qV 33) (kL.getD 33 0) (sch qM 33) = _
  rw [qs33, qw33]
  kernel_rfl
theorem qs35 : steps qM qV 35 = ⟨3025698238#32, 1852315570#32, 1051771959#32, 4044310259#32, 4097345121#32, 3095318002#32, 3108744874#32, 3561933434#32⟩ := by
  show step (steps qM qV 34) (kL.getD 34 0) (sch qM 34) = _
  rw [qs34, qw34]
  kernel_rfl
theorem qs36 : steps qM qV 36 = ⟨1196901622#32, 3025698238#32, 1852315570#32, 1051771959#32, 3638095542#32, 4097345121#32, 3095318002#32, 3108744874#32⟩ := by
  show step (steps qM qV 35) (kL.getD 35 0) (sch qM 35) = _
  rw [qs35, qw35]
  kernel_rfl
theorem qs37 : steps qM qV 37 = ⟨3474893811#32, 1196901622#32, 3025698238#32, 1852315570#32, 3154307034#32, 3638095542#32, 4097345121#32, 3095318002#32⟩ := by
  show step (steps qM qV 36) (kL.getD 36 0) (sch qM 36) = _
  rw [qs36, qw36]
  kernel_rfl
theorem qs38 : steps qM qV 38 = ⟨3590459160#32, 3474893811#32, 1196901622#32, 3025698238#32, 2786433951#32, 3154307034#32, 3638095542#32, 4097345121#32⟩ := by
  show step (steps qM qV 37) (kL.getD 37 0) (sch qM 37) = _
  rw [qs37, qw37]
  kernel_rfl
theorem qs39 : steps qM qV 39 = ⟨4141075451#32, 3590459160#32, 3474893811#32, 1196901622#32, 2661017913#32, 2786433951#32, 3154307034#32, 3638095542#32⟩ := by
  show step (steps qM qV 38) (kL.getD 38 0) (sch qM 38) = _
  rw [qs38, qw38]
  kernel_rfl
theorem qs40 : steps qM qV 40 = ⟨292914390#32, 4141075451#32, 3590459160#32, 3474893811#32, 2507510294#32, 2661017913#32, 2786433951#32, 3154307034#32⟩ := by
  show step (steps qM qV 39) (kL.getD 39 0) (sch qM 39) = _
  rw [qs39, qw39]
  kernel_rfl
theorem qs41 : steps qM qV 41 = ⟨1357115829#32, 292914390#32, 4141075451#32, 3590459160#32, 3568327410#32, 2507510294#32, 2661017913#32, 2786433951#32⟩ := by
  show step (steps qM qV 40) (kL.getD 40 0) (sch qM 40) = _
  rw [qs40, qw40]
  kernel_rfl
theorem qs42 : steps qM qV 42 = ⟨981944752#32, 1357115829#32, 292914390#32, 4141075451#32, 1765861536#32, 3568327410#32, 2507510294#32, 2661017913#32⟩ := by
  show step (steps qM qV 41) (kL.getD 41 0) (sch qM 41) = _
  rw [qs41, qw41]
  kernel_rfl
theorem qs43 : steps qM qV 43 = ⟨1803136171#32, 981944752#32, 1357115829#32, 292914390#32, 4083085366#32, 1765861536#32, 3568327410#32, 2507510294#32⟩ := by
  show step (steps qM qV 42) (kL.getD 42 0) (sch qM 42) = _
  rw [qs42, qw42]
  kernel_rfl
theorem qs44 : steps qM qV 44 = ⟨1496912935#32, 1803136171#32, 981944752#32, 1357115829#32, 2526220802#32, 4083085366#32, 1765861536#32, 3568327410#32⟩ := by
  show step (steps qM qV 43) (kL.getD 43 0) (sch qM 43) = _
  rw [qs43, qw43]
  kernel_rfl
theorem qs45 : steps qM qV 45 = ⟨1056023157#32, 1496912935#32, 1803136171#32, 981944752#32, 2172155362#32, 2526220802#32, 4083085366#32, 1765861536#32⟩ := by
  show step (steps qM qV 44) (kL.getD 44 0) (sch qM 44) = _
  rw [qs44, qw44]
  kernel_rfl
theorem qs46 : steps qM qV 46 = ⟨86521811#32, 1056023157#32, 1496912935#32, 1803136171#32, 697930097#32, 2172155362#32, 2526220802#32, 4083085366#32⟩ := by
  show step (steps qM qV 45) (kL.getD 45 0) (sch qM 45) = _
  rw [qs45, qw45]
  kernel_rfl
theorem qs47 : steps qM qV 47 = ⟨3784273288#32, 86521811#32, 1056023157#32, 1496912935#32, 1354922779#32, 697930097#32, 2172155362#32, 2526220802#32⟩ := by
  show step (steps qM qV 46) (kL.getD 46 0) (sch qM 46) = _
  rw [qs46, qw46]
  kernel_rfl
theorem qs48 : steps qM qV 48 = ⟨768929686#32, 3784273288#32, 86521811#32, 1056023157#32, 4157728589#32, 1354922779#32, 697930097#32, 2172155362#32⟩ := by
  show step (steps qM qV 47) (kL.getD 47 0) (sch qM 47) = _
  rw [qs47, qw47]
  kernel_rfl
theorem qs49 : steps qM qV 49 = ⟨4241649112#32, 768929686#32, 3784273288#32, 86521811#32, 1908249286#32, 4157728589#32, 1354922779#32, 697930097#32⟩ := by
  show step (steps qM qV 48) (kL.getD 48 0) (sch qM 48) = _
  rw [qs48, qw48]
  kernel_rfl
theorem qs50 : steps qM qV 50 = ⟨1741032234#32, 4241649112#32, 768929686#32, 3784273288#32, 1725151055#32, 1908249286#32, 4157728589#32, 1354922779#32⟩ := by
  show step (steps qM qV 49) (kL.getD 49 0) (sch qM 49) = _
  rw [qs49, qw49]
  kernel_rfl
theorem qs51 : steps qM qV 51 = ⟨1726481643#32, 1741032234#32, 4241649112#32, 768929686#32, 34794868#32, 1725151055#32, 1908249286#32, 4157728589#32⟩ := by
  show step (steps qM qV 50) (kL.getD 50 0) (sch qM 50) = _
  rw [qs50, qw50]
  kernel_rfl
theorem qs52 : steps qM qV 52 = ⟨1613953378#32, 1726481643#32, 1741032234#32, 4241649112#32, 3360898861#32, 34794868#32, 1725151055#32, 1908249286#32⟩ := by
  show step (steps qM qV 51) (kL.getD 51 0) (sch qM 51) = _
  rw [qs51, qw51]
  kernel_rfl
theorem qs53 : steps qM qV 53 = ⟨3335531743#32, 1613953378#32, 1726481643#32, 1741032234#32, 3284556542#32, 3360898861#32, 34794868#32, 1725151055#32⟩ := by
  show step (steps qM qV 52) (kL.getD 52 0) (sch qM 52) = _
  rw [qs52, qw52]
  kernel_rfl
theorem qs54 : steps qM qV 54 = ⟨1219227125#32, 3335531743#32, 1613953378#32, 1726481643#32, 1904773511#32, 3284556542#32, 3360898861#32, 34794868#32⟩ := by
  show step (steps qM qV 53) (kL.getD 53 0) (sch qM 53) = _
  rw [qs53, qw53]
  kernel_rfl
theorem qs55 : steps qM qV 55 = ⟨1470614162#32, 1219227125#32, 3335531743#32, 1613953378#32, 3953489542#32, 1904773511#32, 3284556542#32, 3360898861#32⟩ := by
  show step (steps qM qV 54) (kL.getD 54 0) (sch qM 54) = _
  rw [qs54, qw54]
  kernel_rfl
theorem qs56 : steps qM qV 56 = ⟨2300414916#32, 1470614162#32, 1219227125#32, 3335531743#32, 1146851723#32, 3953489542#32, 1904773511#32, 3284556542#32⟩ := by
  show step (steps qM qV 55) (kL.getD 55 0) (sch qM 55) = _
  rw [qs55, qw55]
  kernel_rfl
theorem qs57 : steps qM qV 57 = ⟨2069014642#32, 2300414916#32, 1470614162#32, 1219227125#32, 3995521348#32, 1146851723#32, 3953489542#32, 1904773511#32⟩ := by
  show step (steps qM qV 56) (kL.getD 56 0) (sch qM 56) = _
  rw [qs56, qw56]
  kernel_rfl
theorem qs58 : steps qM qV 58 = ⟨2113289780#32, 2069014642#32, 2300414916#32, 1470614162#32, 3550734323#32, 3995521348#32, 1146851723#32, 3953489542#32⟩ := by
  show step (steps qM qV 57) (kL.getD 57 0) (sch qM 57) = _
  rw [qs57, qw57]
  kernel_rfl
theorem qs59 : steps qM qV 59 = ⟨800944535#32, 2113289780#32, 2069014642#32, 2300414916#32, 3622297578#32, 3550734323#32, 3995521348#32, 1146851723#32⟩ := by
  show step (steps qM qV 58) (kL.getD 58 0) (sch qM 58) = _
  rw [qs58, qw58]
  kernel_rfl
theorem qs60 : steps qM qV 60 = ⟨2501253798#32, 800944535#32, 2113289780#32, 2069014642#32, 3953979652#32, 3622297578#32, 3550734323#32, 3995521348#32⟩ := by
  show step (steps qM qV 59) (kL.getD 59 0) (sch qM 59) = _
  rw [qs59, qw59]
  kernel_rfl
theorem qs61 : steps qM qV 61 = ⟨3507690046#32, 2501253798#32, 800944535#32, 2113289780#32, 3868447661#32, 3953979652#32, 3622297578#32, 3550734323#32⟩ := by
  show step (steps qM qV 60) (kL.getD 60 0) (sch qM 60) = _
  rw [qs60, qw60]
  kernel_rfl
theorem qs62 : steps qM qV 62 = ⟨3581505314#32, 3507690046#32, 2501253798#32, 800944535#32, 2491276621#32, 3868447661#32, 3953979652#32, 3622297578#32⟩ := by
  show step (steps qM qV 61) (kL.getD 61 0) (sch qM 61) = _
  rw [qs61, qw61]
  kernel_rfl
theorem qs63 : steps qM qV 63 = ⟨2750366839#32, 3581505314#32, 3507690046#32, 2501253798#32, 3567591570#32, 2491276621#32, 3868447661#32, 3953979652#32⟩ := by
  show step (steps qM qV 62) (kL.getD 62 0) (sch qM 62) = _
  rw [qs62, qw62]
  kernel_rfl
theorem qs64 : steps qM qV 64 = ⟨180292662#32, 2750366839#32, 3581505314#32, 3507690046#32, 1476577214#32, 3567591570#32, 2491276621#32, 3868447661#32⟩ := by
  show step (steps qM qV 63) (kL.getD 63 0) (sch qM 63) = _
  rw [qs63, qw63]
  kernel_rfl
theorem b32_run : run (pad b32L) 1 = ⟨1959326365#32, 1599533820#32, 300442260#32, 1986203512#32, 2836470333#32, 1873447198#32, 3020011256#32, 1114939590#32⟩ := by
  rw [b32_pad]
  show add8 qV (steps qM qV 64) = _
  rw [qs64]
  rfl
theorem b32_sum : sum b32L = [116#8, 200#8, 242#8, 157#8, 95#8, 86#8, 242#8, 252#8, 17#8, 232#8, 98#8, 148#8, 118#8, 99#8, 15#8, 120#8, 169#8, 17#8, 26#8, 61#8, 111#8, 170#8, 137#8, 30#8, 180#8, 1#8, 182#8, 248#8, 66#8, 116#8, 160#8, 198#8] := by
  have e : sum b32L = out ⟨1959326365#32, 1599533820#32, 300442260#32, 1986203512#32, 2836470333#32, 1873447198#32, 3020011256#32, 1114939590#32⟩ := by
    unfold sum
    rw [show (pad b32L).length / 64 = 1 by rw [b32_pad]; rfl, b32_run]
  rw [e]
  decide +kernel
end Go.Proofs.YtagjolbpmhbifaaGreatDoor.Dg
