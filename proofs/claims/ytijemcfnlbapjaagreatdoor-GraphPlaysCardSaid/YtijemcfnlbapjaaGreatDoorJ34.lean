/- the ids of the chapter's example of graphs: four digests, word by word (mkgrw.py) -/
import Derived.Test.YtijemcfnlbapjaaGreatDoorJ11
namespace Go.Proofs.YtijemcfnlbapjaaGreatDoor.Dg.Ex
def g55L : List (BitVec 8) := [1#8, 0#8, 0#8, 0#8, 0#8, 0#8, 0#8, 0#8, 0#8, 0#8, 0#8, 0#8, 0#8, 0#8, 0#8, 0#8, 0#8, 0#8, 0#8, 0#8, 0#8, 0#8, 0#8, 0#8, 0#8, 0#8, 0#8, 0#8, 0#8, 0#8, 0#8, 0#8, 0#8, 0#8, 0#8, 0#8, 0#8, 1#8, 0#8, 0#8, 0#8, 0#8, 0#8, 0#8, 0#8, 0#8, 0#8, 0#8, 0#8, 0#8, 0#8, 0#8, 0#8, 0#8, 0#8]
theorem g55_pad : pad g55L = [1#8, 0#8, 0#8, 0#8, 0#8, 0#8, 0#8, 0#8, 0#8, 0#8, 0#8, 0#8, 0#8, 0#8, 0#8, 0#8, 0#8, 0#8, 0#8, 0#8, 0#8, 0#8, 0#8, 0#8, 0#8, 0#8, 0#8, 0#8, 0#8, 0#8, 0#8, 0#8, 0#8, 0#8, 0#8, 0#8, 0#8, 1#8, 0#8, 0#8, 0#8, 0#8, 0#8, 0#8, 0#8, 0#8, 0#8, 0#8, 0#8, 0#8, 0#8, 0#8, 0#8, 0#8, 0#8, 128#8, 0#8, 0#8, 0#8, 0#8, 0#8, 0#8, 1#8, 184#8] := by decide +kernel
def pM : Nat → BitVec 32 := blk [1#8, 0#8, 0#8, 0#8, 0#8, 0#8, 0#8, 0#8, 0#8, 0#8, 0#8, 0#8, 0#8, 0#8, 0#8, 0#8, 0#8, 0#8, 0#8, 0#8, 0#8, 0#8, 0#8, 0#8, 0#8, 0#8, 0#8, 0#8, 0#8, 0#8, 0#8, 0#8, 0#8, 0#8, 0#8, 0#8, 0#8, 1#8, 0#8, 0#8, 0#8, 0#8, 0#8, 0#8, 0#8, 0#8, 0#8, 0#8, 0#8, 0#8, 0#8, 0#8, 0#8, 0#8, 0#8, 128#8, 0#8, 0#8, 0#8, 0#8, 0#8, 0#8, 1#8, 184#8] 0
theorem pw0 : sch pM 0 = 16777216#32 := by rw [sch_lo _ (by omega)]; decide +kernel
theorem pw1 : sch pM 1 = 0#32 := by rw [sch_lo _ (by omega)]; decide +kernel
theorem pw2 : sch pM 2 = 0#32 := by rw [sch_lo _ (by omega)]; decide +kernel
theorem pw3 : sch pM 3 = 0#32 := by rw [sch_lo _ (by omega)]; decide +kernel
theorem pw4 : sch pM 4 = 0#32 := by rw [sch_lo _ (by omega)]; decide +kernel
theorem pw5 : sch pM 5 = 0#32 := by rw [sch_lo _ (by omega)]; decide +kernel
theorem pw6 : sch pM 6 = 0#32 := by rw [sch_lo _ (by omega)]; decide +kernel
theorem pw7 : sch pM 7 = 0#32 := by rw [sch_lo _ (by omega)]; decide +kernel
theorem pw8 : sch pM 8 = 0#32 := by rw [sch_lo _ (by omega)]; decide +kernel
theorem pw9 : sch pM 9 = 65536#32 := by rw [sch_lo _ (by omega)]; decide +kernel
theorem pw10 : sch pM 10 = 0#32 := by rw [sch_lo _ (by omega)]; decide +kernel
theorem pw11 : sch pM 11 = 0#32 := by rw [sch_lo _ (by omega)]; decide +kernel
theorem pw12 : sch pM 12 = 0#32 := by rw [sch_lo _ (by omega)]; decide +kernel
theorem pw13 : sch pM 13 = 128#32 := by rw [sch_lo _ (by omega)]; decide +kernel
theorem pw14 : sch pM 14 = 0#32 := by rw [sch_lo _ (by omega)]; decide +kernel
theorem pw15 : sch pM 15 = 440#32 := by rw [sch_lo _ (by omega)]; decide +kernel
theorem pw16 : sch pM 16 = 16842752#32 := by rw [sch_hi _ (by omega), show 16 - 2 = 14 from rfl, show 16 - 7 = 9 from rfl, show 16 - 15 = 1 from rfl, show 16 - 16 = 0 from rfl, pw14, pw9, pw1, pw0]; decide +kernel
theorem pw17 : sch pM 17 = 15400960#32 := by rw [sch_hi _ (by omega), show 17 - 2 = 15 from rfl, show 17 - 7 = 10 from rfl, show 17 - 15 = 2 from rfl, show 17 - 16 = 1 from rfl, pw15, pw10, pw2, pw1]; decide +kernel
theorem pw18 : sch pM 18 = 2684371168#32 := by rw [sch_hi _ (by omega), show 18 - 2 = 16 from rfl, show 18 - 7 = 11 from rfl, show 18 - 15 = 3 from rfl, show 18 - 16 = 2 from rfl, pw16, pw11, pw3, pw2]; decide +kernel
theorem pw19 : sch pM 19 = 3758111400#32 := by rw [sch_hi _ (by omega), show 19 - 2 = 17 from rfl, show 19 - 7 = 12 from rfl, show 19 - 15 = 4 from rfl, show 19 - 16 = 3 from rfl, pw17, pw12, pw4, pw3]; decide +kernel
theorem pw20 : sch pM 20 = 675562640#32 := by rw [sch_hi _ (by omega), show 20 - 2 = 18 from rfl, show 20 - 7 = 13 from rfl, show 20 - 15 = 5 from rfl, show 20 - 16 = 4 from rfl, pw18, pw13, pw5, pw4]; decide +kernel
theorem pw21 : sch pM 21 = 439970830#32 := by rw [sch_hi _ (by omega), show 21 - 2 = 19 from rfl, show 21 - 7 = 14 from rfl, show 21 - 15 = 6 from rfl, show 21 - 16 = 5 from rfl, pw19, pw14, pw6, pw5]; decide +kernel
theorem pw22 : sch pM 22 = 2865758707#32 := by rw [sch_hi _ (by omega), show 22 - 2 = 20 from rfl, show 22 - 7 = 15 from rfl, show 22 - 15 = 7 from rfl, show 22 - 16 = 6 from rfl, pw20, pw15, pw7, pw6]; decide +kernel
theorem pw23 : sch pM 23 = 2625716224#32 := by rw [sch_hi _ (by omega), show 23 - 2 = 21 from rfl, show 23 - 7 = 16 from rfl, show 23 - 15 = 8 from rfl, show 23 - 16 = 7 from rfl, pw21, pw16, pw8, pw7]; decide +kernel
theorem pw24 : sch pM 24 = 1104688690#32 := by rw [sch_hi _ (by omega), show 24 - 2 = 22 from rfl, show 24 - 7 = 17 from rfl, show 24 - 15 = 9 from rfl, show 24 - 16 = 8 from rfl, pw22, pw17, pw9, pw8]; decide +kernel
theorem pw25 : sch pM 25 = 673758816#32 := by rw [sch_hi _ (by omega), show 25 - 2 = 23 from rfl, show 25 - 7 = 18 from rfl, show 25 - 15 = 10 from rfl, show 25 - 16 = 9 from rfl, pw23, pw18, pw10, pw9]; decide +kernel
theorem pw26 : sch pM 26 = 4258224514#32 := by rw [sch_hi _ (by omega), show 26 - 2 = 24 from rfl, show 26 - 7 = 19 from rfl, show 26 - 15 = 11 from rfl, show 26 - 16 = 10 from rfl, pw24, pw19, pw11, pw10]; decide +kernel
theorem pw27 : sch pM 27 = 1899651022#32 := by rw [sch_hi _ (by omega), show 27 - 2 = 25 from rfl, show 27 - 7 = 20 from rfl, show 27 - 15 = 12 from rfl, show 27 - 16 = 11 from rfl, pw25, pw20, pw12, pw11]; decide +kernel
theorem pw28 : sch pM 28 = 1646771879#32 := by rw [sch_hi _ (by omega), show 28 - 2 = 26 from rfl, show 28 - 7 = 21 from rfl, show 28 - 15 = 13 from rfl, show 28 - 16 = 12 from rfl, pw26, pw21, pw13, pw12]; decide +kernel
theorem pw29 : sch pM 29 = 248691360#32 := by rw [sch_hi _ (by omega), show 29 - 2 = 27 from rfl, show 29 - 7 = 22 from rfl, show 29 - 15 = 14 from rfl, show 29 - 16 = 13 from rfl, pw27, pw22, pw14, pw13]; decide +kernel
theorem pw30 : sch pM 30 = 898569452#32 := by rw [sch_hi _ (by omega), show 30 - 2 = 28 from rfl, show 30 - 7 = 23 from rfl, show 30 - 15 = 15 from rfl, show 30 - 16 = 14 from rfl, pw28, pw23, pw15, pw14]; decide +kernel
theorem pw31 : sch pM 31 = 2348944455#32 := by rw [sch_hi _ (by omega), show 31 - 2 = 29 from rfl, show 31 - 7 = 24 from rfl, show 31 - 15 = 16 from rfl, show 31 - 16 = 15 from rfl, pw29, pw24, pw16, pw15]; decide +kernel
theorem pw32 : sch pM 32 = 1378710605#32 := by rw [sch_hi _ (by omega), show 32 - 2 = 30 from rfl, show 32 - 7 = 25 from rfl, show 32 - 15 = 17 from rfl, show 32 - 16 = 16 from rfl, pw30, pw25, pw17, pw16]; decide +kernel
theorem pw33 : sch pM 33 = 196784417#32 := by rw [sch_hi _ (by omega), show 33 - 2 = 31 from rfl, show 33 - 7 = 26 from rfl, show 33 - 15 = 18 from rfl, show 33 - 16 = 17 from rfl, pw31, pw26, pw18, pw17]; decide +kernel
theorem pw34 : sch pM 34 = 1767925724#32 := by rw [sch_hi _ (by omega), show 34 - 2 = 32 from rfl, show 34 - 7 = 27 from rfl, show 34 - 15 = 19 from rfl, show 34 - 16 = 18 from rfl, pw32, pw27, pw19, pw18]; decide +kernel
theorem pw35 : sch pM 35 = 2237287775#32 := by rw [sch_hi _ (by omega), show 35 - 2 = 33 from rfl, show 35 - 7 = 28 from rfl, show 35 - 15 = 20 from rfl, show 35 - 16 = 19 from rfl, pw33, pw28, pw20, pw19]; decide +kernel
theorem pw36 : sch pM 36 = 3130505868#32 := by rw [sch_hi _ (by omega), show 36 - 2 = 34 from rfl, show 36 - 7 = 29 from rfl, show 36 - 15 = 21 from rfl, show 36 - 16 = 20 from rfl, pw34, pw29, pw21, pw20]; decide +kernel
theorem pw37 : sch pM 37 = 2975936536#32 := by rw [sch_hi _ (by omega), show 37 - 2 = 35 from rfl, show 37 - 7 = 30 from rfl, show 37 - 15 = 22 from rfl, show 37 - 16 = 21 from rfl, pw35, pw30, pw22, pw21]; decide +kernel
theorem pw38 : sch pM 38 = 2746518481#32 := by rw [sch_hi _ (by omega), show 38 - 2 = 36 from rfl, show 38 - 7 = 31 from rfl, show 38 - 15 = 23 from rfl, show 38 - 16 = 22 from rfl, pw36, pw31, pw23, pw22]; decide +kernel
theorem pw39 : sch pM 39 = 235270649#32 := by rw [sch_hi _ (by omega), show 39 - 2 = 37 from rfl, show 39 - 7 = 32 from rfl, show 39 - 15 = 24 from rfl, show 39 - 16 = 23 from rfl, pw37, pw32, pw24, pw23]; decide +kernel
theorem pw40 : sch pM 40 = 219823259#32 := by rw [sch_hi _ (by omega), show 40 - 2 = 38 from rfl, show 40 - 7 = 33 from rfl, show 40 - 15 = 25 from rfl, show 40 - 16 = 24 from rfl, pw38, pw33, pw25, pw24]; decide +kernel
theorem pw41 : sch pM 41 = 2758547690#32 := by rw [sch_hi _ (by omega), show 41 - 2 = 39 from rfl, show 41 - 7 = 34 from rfl, show 41 - 15 = 26 from rfl, show 41 - 16 = 25 from rfl, pw39, pw34, pw26, pw25]; decide +kernel
theorem pw42 : sch pM 42 = 3795708810#32 := by rw [sch_hi _ (by omega), show 42 - 2 = 40 from rfl, show 42 - 7 = 35 from rfl, show 42 - 15 = 27 from rfl, show 42 - 16 = 26 from rfl, pw40, pw35, pw27, pw26]; decide +kernel
theorem pw43 : sch pM 43 = 1748801591#32 := by rw [sch_hi _ (by omega), show 43 - 2 = 41 from rfl, show 43 - 7 = 36 from rfl, show 43 - 15 = 28 from rfl, show 43 - 16 = 27 from rfl, pw41, pw36, pw28, pw27]; decide +kernel
theorem pw44 : sch pM 44 = 1267040887#32 := by rw [sch_hi _ (by omega), show 44 - 2 = 42 from rfl, show 44 - 7 = 37 from rfl, show 44 - 15 = 29 from rfl, show 44 - 16 = 28 from rfl, pw42, pw37, pw29, pw28]; decide +kernel
theorem pw45 : sch pM 45 = 2909834887#32 := by rw [sch_hi _ (by omega), show 45 - 2 = 43 from rfl, show 45 - 7 = 38 from rfl, show 45 - 15 = 30 from rfl, show 45 - 16 = 29 from rfl, pw43, pw38, pw30, pw29]; decide +kernel
theorem pw46 : sch pM 46 = 3532020551#32 := by rw [sch_hi _ (by omega), show 46 - 2 = 44 from rfl, show 46 - 7 = 39 from rfl, show 46 - 15 = 31 from rfl, show 46 - 16 = 30 from rfl, pw44, pw39, pw31, pw30]; decide +kernel
theorem pw47 : sch pM 47 = 3183962369#32 := by rw [sch_hi _ (by omega), show 47 - 2 = 45 from rfl, show 47 - 7 = 40 from rfl, show 47 - 15 = 32 from rfl, show 47 - 16 = 31 from rfl, pw45, pw40, pw32, pw31]; decide +kernel
theorem pw48 : sch pM 48 = 3435241828#32 := by rw [sch_hi _ (by omega), show 48 - 2 = 46 from rfl, show 48 - 7 = 41 from rfl, show 48 - 15 = 33 from rfl, show 48 - 16 = 32 from rfl, pw46, pw41, pw33, pw32]; decide +kernel
theorem pw49 : sch pM 49 = 4086434712#32 := by rw [sch_hi _ (by omega), show 49 - 2 = 47 from rfl, show 49 - 7 = 42 from rfl, show 49 - 15 = 34 from rfl, show 49 - 16 = 33 from rfl, pw47, pw42, pw34, pw33]; decide +kernel
theorem pw50 : sch pM 50 = 4081118218#32 := by rw [sch_hi _ (by omega), show 50 - 2 = 48 from rfl, show 50 - 7 = 43 from rfl, show 50 - 15 = 35 from rfl, show 50 - 16 = 34 from rfl, pw48, pw43, pw35, pw34]; decide +kernel
theorem pw51 : sch pM 51 = 4125641104#32 := by rw [sch_hi _ (by omega), show 51 - 2 = 49 from rfl, show 51 - 7 = 44 from rfl, show 51 - 15 = 36 from rfl, show 51 - 16 = 35 from rfl, pw49, pw44, pw36, pw35]; decide +kernel
theorem pw52 : sch pM 52 = 1057622337#32 := by rw [sch_hi _ (by omega), show 52 - 2 = 50 from rfl, show 52 - 7 = 45 from rfl, show 52 - 15 = 37 from rfl, show 52 - 16 = 36 from rfl, pw50, pw45, pw37, pw36]; decide +kernel
theorem pw53 : sch pM 53 = 1198799418#32 := by rw [sch_hi _ (by omega), show 53 - 2 = 51 from rfl, show 53 - 7 = 46 from rfl, show 53 - 15 = 38 from rfl, show 53 - 16 = 37 from rfl, pw51, pw46, pw38, pw37]; decide +kernel
theorem pw54 : sch pM 54 = 916874773#32 := by rw [sch_hi _ (by omega), show 54 - 2 = 52 from rfl, show 54 - 7 = 47 from rfl, show 54 - 15 = 39 from rfl, show 54 - 16 = 38 from rfl, pw52, pw47, pw39, pw38]; decide +kernel
theorem pw55 : sch pM 55 = 766704227#32 := by rw [sch_hi _ (by omega), show 55 - 2 = 53 from rfl, show 55 - 7 = 48 from rfl, show 55 - 15 = 40 from rfl, show 55 - 16 = 39 from rfl, pw53, pw48, pw40, pw39]; decide +kernel
theorem pw56 : sch pM 56 = 3362901640#32 := by rw [sch_hi _ (by omega), show 56 - 2 = 54 from rfl, show 56 - 7 = 49 from rfl, show 56 - 15 = 41 from rfl, show 56 - 16 = 40 from rfl, pw54, pw49, pw41, pw40]; decide +kernel
theorem pw57 : sch pM 57 = 763699950#32 := by rw [sch_hi _ (by omega), show 57 - 2 = 55 from rfl, show 57 - 7 = 50 from rfl, show 57 - 15 = 42 from rfl, show 57 - 16 = 41 from rfl, pw55, pw50, pw42, pw41]; decide +kernel
theorem pw58 : sch pM 58 = 4238853784#32 := by rw [sch_hi _ (by omega), show 58 - 2 = 56 from rfl, show 58 - 7 = 51 from rfl, show 58 - 15 = 43 from rfl, show 58 - 16 = 42 from rfl, pw56, pw51, pw43, pw42]; decide +kernel
theorem pw59 : sch pM 59 = 1675803997#32 := by rw [sch_hi _ (by omega), show 59 - 2 = 57 from rfl, show 59 - 7 = 52 from rfl, show 59 - 15 = 44 from rfl, show 59 - 16 = 43 from rfl, pw57, pw52, pw44, pw43]; decide +kernel
theorem pw60 : sch pM 60 = 3891208312#32 := by rw [sch_hi _ (by omega), show 60 - 2 = 58 from rfl, show 60 - 7 = 53 from rfl, show 60 - 15 = 45 from rfl, show 60 - 16 = 44 from rfl, pw58, pw53, pw45, pw44]; decide +kernel
theorem pw61 : sch pM 61 = 4032367933#32 := by rw [sch_hi _ (by omega), show 61 - 2 = 59 from rfl, show 61 - 7 = 54 from rfl, show 61 - 15 = 46 from rfl, show 61 - 16 = 45 from rfl, pw59, pw54, pw46, pw45]; decide +kernel
theorem pw62 : sch pM 62 = 1120335599#32 := by rw [sch_hi _ (by omega), show 62 - 2 = 60 from rfl, show 62 - 7 = 55 from rfl, show 62 - 15 = 47 from rfl, show 62 - 16 = 46 from rfl, pw60, pw55, pw47, pw46]; decide +kernel
theorem pw63 : sch pM 63 = 3851881547#32 := by rw [sch_hi _ (by omega), show 63 - 2 = 61 from rfl, show 63 - 7 = 56 from rfl, show 63 - 15 = 48 from rfl, show 63 - 16 = 47 from rfl, pw61, pw56, pw48, pw47]; decide +kernel
def pV : V8 := ⟨1779033703#32, 3144134277#32, 1013904242#32, 2773480762#32, 1359893119#32, 2600822924#32, 528734635#32, 1541459225#32⟩
theorem ps0 : steps pM pV 0 = ⟨1779033703#32, 3144134277#32, 1013904242#32, 2773480762#32, 1359893119#32, 2600822924#32, 528734635#32, 1541459225#32⟩ := rfl
theorem ps1 : steps pM pV 1 = ⟨4245194829#32, 1779033703#32, 3144134277#32, 1013904242#32, 2580013730#32, 1359893119#32, 2600822924#32, 528734635#32⟩ := by
  show step (steps pM pV 0) (kL.getD 0 0) (sch pM 0) = _
  rw [ps0, pw0]
  kernel_rfl
theorem ps2 : steps pM pV 2 = ⟨4221405836#32, 4245194829#32, 1779033703#32, 3144134277#32, 502649366#32, 2580013730#32, 1359893119#32, 2600822924#32⟩ := by
  show step (steps pM pV 1) (kL.getD 1 0) (sch pM 1) = _
  rw [ps1, pw1]
  kernel_rfl
theorem ps3 : steps pM pV 3 = ⟨2728894896#32, 4221405836#32, 4245194829#32, 1779033703#32, 1180383303#32, 502649366#32, 2580013730#32, 1359893119#32⟩ := by
  show step (steps pM pV 2) (kL.getD 2 0) (sch pM 2) = _
  rw [ps2, pw2]
  kernel_rfl
theorem ps4 : steps pM pV 4 = ⟨3359591766#32, 2728894896#32, 4221405836#32, 4245194829#32, 2064739158#32, 1180383303#32, 502649366#32, 2580013730#32⟩ := by
  show step (steps pM pV 3) (kL.getD 3 0) (sch pM 3) = _
  rw [ps3, pw3]
  kernel_rfl
theorem ps5 : steps pM pV 5 = ⟨3858185507#32, 3359591766#32, 2728894896#32, 4221405836#32, 3534975565#32, 2064739158#32, 1180383303#32, 502649366#32⟩ := by
  show step (steps pM pV 4) (kL.getD 4 0) (sch pM 4) = _
  rw [ps4, pw4]
  kernel_rfl
theorem ps6 : steps pM pV 6 = ⟨2732042291#32, 3858185507#32, 3359591766#32, 2728894896#32, 4045903399#32, 3534975565#32, 2064739158#32, 1180383303#32⟩ := by
  show step (steps pM pV 5) (kL.getD 5 0) (sch pM 5) = _
  rw [ps5, pw5]
  kernel_rfl
theorem ps7 : steps pM pV 7 = ⟨1413431039#32, 2732042291#32, 3858185507#32, 3359591766#32, 510099778#32, 4045903399#32, 3534975565#32, 2064739158#32⟩ := by
  show step (steps pM pV 6) (kL.getD 6 0) (sch pM 6) = _
  rw [ps6, pw6]
  kernel_rfl
theorem ps8 : steps pM pV 8 = ⟨3454435197#32, 1413431039#32, 2732042291#32, 3858185507#32, 3542089098#32, 510099778#32, 4045903399#32, 3534975565#32⟩ := by
  show step (steps pM pV 7) (kL.getD 7 0) (sch pM 7) = _
  rw [ps7, pw7]
  kernel_rfl
theorem ps9 : steps pM pV 9 = ⟨3375153094#32, 3454435197#32, 1413431039#32, 2732042291#32, 3636639375#32, 3542089098#32, 510099778#32, 4045903399#32⟩ := by
  show step (steps pM pV 8) (kL.getD 8 0) (sch pM 8) = _
  rw [ps8, pw8]
  kernel_rfl
theorem ps10 : steps pM pV 10 = ⟨893893121#32, 3375153094#32, 3454435197#32, 1413431039#32, 208577669#32, 3636639375#32, 3542089098#32, 510099778#32⟩ := by
  show step (steps pM pV 9) (kL.getD 9 0) (sch pM 9) = _
  rw [ps9, pw9]
  kernel_rfl
theorem ps11 : steps pM pV 11 = ⟨583432700#32, 893893121#32, 3375153094#32, 3454435197#32, 636401998#32, 208577669#32, 3636639375#32, 3542089098#32⟩ := by
  show step (steps pM pV 10) (kL.getD 10 0) (sch pM 10) = _
  rw [ps10, pw10]
  kernel_rfl
theorem ps12 : steps pM pV 12 = ⟨3936941693#32, 583432700#32, 893893121#32, 3375153094#32, 3096527215#32, 636401998#32, 208577669#32, 3636639375#32⟩ := by
  show step (steps pM pV 11) (kL.getD 11 0) (sch pM 11) = _
  rw [ps11, pw11]
  kernel_rfl
theorem ps13 : steps pM pV 13 = ⟨3649647793#32, 3936941693#32, 583432700#32, 893893121#32, 357718664#32, 3096527215#32, 636401998#32, 208577669#32⟩ := by
  show step (steps pM pV 12) (kL.getD 12 0) (sch pM 12) = _
  rw [ps12, pw12]
  kernel_rfl
theorem ps14 : steps pM pV 14 = ⟨2018220668#32, 3649647793#32, 3936941693#32, 583432700#32, 3419183485#32, 357718664#32, 3096527215#32, 636401998#32⟩ := by
  show step (steps pM pV 13) (kL.getD 13 0) (sch pM 13) = _
  rw [ps13, pw13]
  kernel_rfl
theorem ps15 : steps pM pV 15 = ⟨236558513#32, 2018220668#32, 3649647793#32, 3936941693#32, 1421707022#32, 3419183485#32, 357718664#32, 3096527215#32⟩ := by
  show step (steps pM pV 14) (kL.getD 14 0) (sch pM 14) = _
  rw [ps14, pw14]
  kernel_rfl
theorem ps16 : steps pM pV 16 = ⟨2060345398#32, 236558513#32, 2018220668#32, 3649647793#32, 755034922#32, 1421707022#32, 3419183485#32, 357718664#32⟩ := by
  show step (steps pM pV 15) (kL.getD 15 0) (sch pM 15) = _
  rw [ps15, pw15]
  kernel_rfl
theorem ps17 : steps pM pV 17 = ⟨806075928#32, 2060345398#32, 236558513#32, 2018220668#32, 3905471232#32, 755034922#32, 1421707022#32, 3419183485#32⟩ := by
  show step (steps pM pV 16) (kL.getD 16 0) (sch pM 16) = _
  rw [ps16, pw16]
  kernel_rfl
theorem ps18 : steps pM pV 18 = ⟨215099836#32, 806075928#32, 2060345398#32, 236558513#32, 2027355373#32, 3905471232#32, 755034922#32, 1421707022#32⟩ := by
  show step (steps pM pV 17) (kL.getD 17 0) (sch pM 17) = _
  rw [ps17, pw17]
  kernel_rfl
theorem ps19 : steps pM pV 19 = ⟨4105086287#32, 215099836#32, 806075928#32, 2060345398#32, 3280730359#32, 2027355373#32, 3905471232#32, 755034922#32⟩ := by
  show step (steps pM pV 18) (kL.getD 18 0) (sch pM 18) = _
  rw [ps18, pw18]
  kernel_rfl
theorem ps20 : steps pM pV 20 = ⟨1076283920#32, 4105086287#32, 215099836#32, 806075928#32, 413747510#32, 3280730359#32, 2027355373#32, 3905471232#32⟩ := by
  show step (steps pM pV 19) (kL.getD 19 0) (sch pM 19) = _
  rw [ps19, pw19]
  kernel_rfl
theorem ps21 : steps pM pV 21 = ⟨1780873165#32, 1076283920#32, 4105086287#32, 215099836#32, 2045188631#32, 413747510#32, 3280730359#32, 2027355373#32⟩ := by
  show step (steps pM pV 20) (kL.getD 20 0) (sch pM 20) = _
  rw [ps20, pw20]
  kernel_rfl
theorem ps22 : steps pM pV 22 = ⟨941130387#32, 1780873165#32, 1076283920#32, 4105086287#32, 1904651150#32, 2045188631#32, 413747510#32, 3280730359#32⟩ := by
  show step (steps pM pV 21) (kL.getD 21 0) (sch pM 21) = _
  rw [ps21, pw21]
  kernel_rfl
theorem ps23 : steps pM pV 23 = ⟨4040444752#32, 941130387#32, 1780873165#32, 1076283920#32, 3301474702#32, 1904651150#32, 2045188631#32, 413747510#32⟩ := by
  show step (steps pM pV 22) (kL.getD 22 0) (sch pM 22) = _
  rw [ps22, pw22]
  kernel_rfl
theorem ps24 : steps pM pV 24 = ⟨3289105833#32, 4040444752#32, 941130387#32, 1780873165#32, 1417540659#32, 3301474702#32, 1904651150#32, 2045188631#32⟩ := by
  show step (steps pM pV 23) (kL.getD 23 0) (sch pM 23) = _
  rw [ps23, pw23]
  kernel_rfl
theorem ps25 : steps pM pV 25 = ⟨2466039970#32, 3289105833#32, 4040444752#32, 941130387#32, 2578417338#32, 1417540659#32, 3301474702#32, 1904651150#32⟩ := by
  show step (steps pM pV 24) (kL.getD 24 0) (sch pM 24) = _
  rw [ps24, pw24]
  kernel_rfl
theorem ps26 : steps pM pV 26 = ⟨1688962396#32, 2466039970#32, 3289105833#32, 4040444752#32, 3109949130#32, 2578417338#32, 1417540659#32, 3301474702#32⟩ := by
  show step (steps pM pV 25) (kL.getD 25 0) (sch pM 25) = _
  rw [ps25, pw25]
  kernel_rfl
theorem ps27 : steps pM pV 27 = ⟨252226426#32, 1688962396#32, 2466039970#32, 3289105833#32, 2639559561#32, 3109949130#32, 2578417338#32, 1417540659#32⟩ := by
  show step (steps pM pV 26) (kL.getD 26 0) (sch pM 26) = _
  rw [ps26, pw26]
  kernel_rfl
theorem ps28 : steps pM pV 28 = ⟨502589010#32, 252226426#32, 1688962396#32, 2466039970#32, 3768084442#32, 2639559561#32, 3109949130#32, 2578417338#32⟩ := by
  show step (steps pM pV 27) (kL.getD 27 0) (sch pM 27) = _
  rw [ps27, pw27]
  kernel_rfl
theorem ps29 : steps pM pV 29 = ⟨2904072797#32, 502589010#32, 252226426#32, 1688962396#32, 3422037345#32, 3768084442#32, 2639559561#32, 3109949130#32⟩ := by
  show step (steps pM pV 28) (kL.getD 28 0) (sch pM 28) = _
  rw [ps28, pw28]
  kernel_rfl
theorem ps30 : steps pM pV 30 = ⟨1907614509#32, 2904072797#32, 502589010#32, 252226426#32, 2921631561#32, 3422037345#32, 3768084442#32, 2639559561#32⟩ := by
  show step (steps pM pV 29) (kL.getD 29 0) (sch pM 29) = _
  rw [ps29, pw29]
  kernel_rfl
theorem ps31 : steps pM pV 31 = ⟨1248718595#32, 1907614509#32, 2904072797#32, 502589010#32, 2436495246#32, 2921631561#32, 3422037345#32, 3768084442#32⟩ := by
  show step (steps pM pV 30) (kL.getD 30 0) (sch pM 30) = _
  rw [ps30, pw30]
  kernel_rfl
theorem ps32 : steps pM pV 32 = ⟨696792364#32, 1248718595#32, 1907614509#32, 2904072797#32, 3238400747#32, 2436495246#32, 2921631561#32, 3422037345#32⟩ := by
  show step (steps pM pV 31) (kL.getD 31 0) (sch pM 31) = _
  rw [ps31, pw31]
  kernel_rfl
theorem ps33 : steps pM pV 33 = ⟨1408526847#32, 696792364#32, 1248718595#32, 1907614509#32, 327889795#32, 3238400747#32, 2436495246#32, 2921631561#32⟩ := by
  show step (steps pM pV 32) (kL.getD 32 0) (sch pM 32) = _
  rw [ps32, pw32]
  kernel_rfl
theorem ps34 : steps pM pV 34 = ⟨3111107092#32, 1408526847#32, 696792364#32, 1248718595#32, 2492905343#32, 327889795#32, 3238400747#32, 2436495246#32⟩ := by
  show step (steps pM pV 33) (kL.getD 33 0) (sch pM 33) = _
  rw [ps33, pw33]
  kernel_rfl
theorem ps35 : steps pM pV 35 = ⟨1850157315#32, 3111107092#32, 1408526847#32, 696792364#32, 1051879341#32, 2492905343#32, 327889795#32, 3238400747#32⟩ := by
  show step (steps pM pV 34) (kL.getD 34 0) (sch pM 34) = _
  rw [ps34, pw34]
  kernel_rfl
theorem ps36 : steps pM pV 36 = ⟨3526905008#32, 1850157315#32, 3111107092#32, 1408526847#32, 4046103301#32, 1051879341#32, 2492905343#32, 327889795#32⟩ := by
  show step (steps pM pV 35) (kL.getD 35 0) (sch pM 35) = _
  rw [ps35, pw35]
  kernel_rfl
theorem ps37 : steps pM pV 37 = ⟨4105703352#32, 3526905008#32, 1850157315#32, 3111107092#32, 2651000833#32, 4046103301#32, 1051879341#32, 2492905343#32⟩ := by
  show step (steps pM pV 36) (kL.getD 36 0) (sch pM 36) = _
  rw [ps36, pw36]
  kernel_rfl
theorem ps38 : steps pM pV 38 = ⟨199719576#32, 4105703352#32, 3526905008#32, 1850157315#32, 776462592#32, 2651000833#32, 4046103301#32, 1051879341#32⟩ := by
  show step (steps pM pV 37) (kL.getD 37 0) (sch pM 37) = _
  rw [ps37, pw37]
  kernel_rfl
theorem ps39 : steps pM pV 39 = ⟨1697465994#32, 199719576#32, 4105703352#32, 3526905008#32, 3035119395#32, 776462592#32, 2651000833#32, 4046103301#32⟩ := by
  show step (steps pM pV 38) (kL.getD 38 0) (sch pM 38) = _
  rw [ps38, pw38]
  kernel_rfl
theorem ps40 : steps pM pV 40 = ⟨1548758680#32, 1697465994#32, 199719576#32, 4105703352#32, 2967001940#32, 3035119395#32, 776462592#32, 2651000833#32⟩ := by
  show step (steps pM pV 39) (kL.getD 39 0) (sch pM 39) = _
  rw [ps39, pw39]
  kernel_rfl
theorem ps41 : steps pM pV 41 = ⟨3518445913#32, 1548758680#32, 1697465994#32, 199719576#32, 1436373539#32, 2967001940#32, 3035119395#32, 776462592#32⟩ := by
  show step (steps pM pV 40) (kL.getD 40 0) (sch pM 40) = _
  rw [ps40, pw40]
  kernel_rfl
theorem ps42 : steps pM pV 42 = ⟨3940026814#32, 3518445913#32, 1548758680#32, 1697465994#32, 1061433621#32, 1436373539#32, 2967001940#32, 3035119395#32⟩ := by
  show step (steps pM pV 41) (kL.getD 41 0) (sch pM 41) = _
  rw [ps41, pw41]
  kernel_rfl
theorem ps43 : steps pM pV 43 = ⟨864607191#32, 3940026814#32, 3518445913#32, 1548758680#32, 679365061#32, 1061433621#32, 1436373539#32, 2967001940#32⟩ := by
  show step (steps pM pV 42) (kL.getD 42 0) (sch pM 42) = _
  rw [ps42, pw42]
  kernel_rfl
theorem ps44 : steps pM pV 44 = ⟨2519989547#32, 864607191#32, 3940026814#32, 3518445913#32, 3451329383#32, 679365061#32, 1061433621#32, 1436373539#32⟩ := by
  show step (steps pM pV 43) (kL.getD 43 0) (sch pM 43) = _
  rw [ps43, pw43]
  kernel_rfl
theorem ps45 : steps pM pV 45 = ⟨1261205948#32, 2519989547#32, 864607191#32, 3940026814#32, 2804283593#32, 3451329383#32, 679365061#32, 1061433621#32⟩ := by
  show step (steps pM pV 44) (kL.getD 44 0) (sch pM 44) = _
  rw [ps44, pw44]
  kernel_rfl
theorem ps46 : steps pM pV 46 = ⟨2149164659#32, 1261205948#32, 2519989547#32, 864607191#32, 3908632658#32, 2804283593#32, 3451329383#32, 679365061#32⟩ := by
  show step (steps pM pV 45) (kL.getD 45 0) (sch pM 45) = _
  rw [ps45, pw45]
  kernel_rfl
theorem ps47 : steps pM pV 47 = ⟨150367447#32, 2149164659#32, 1261205948#32, 2519989547#32, 88187938#32, 3908632658#32, 2804283593#32, 3451329383#32⟩ := by
  show step (steps pM pV 46) (kL.getD 46 0) (sch pM 46) = _
  rw [ps46, pw46]
  kernel_rfl
theorem ps48 : steps pM pV 48 = ⟨1883843301#32, 150367447#32, 2149164659#32, 1261205948#32, 2164931188#32, 88187938#32, 3908632658#32, 2804283593#32⟩ := by
  show step (steps pM pV 47) (kL.getD 47 0) (sch pM 47) = _
  rw [ps47, pw47]
  kernel_rfl
theorem ps49 : steps pM pV 49 = ⟨1089616763#32, 1883843301#32, 150367447#32, 2149164659#32, 1546856719#32, 2164931188#32, 88187938#32, 3908632658#32⟩ := by
  show step (steps pM pV 48) (kL.getD 48 0) (sch pM 48) = _
  rw [ps48, pw48]
  kernel_rfl
theorem ps50 : steps pM pV 50 = ⟨85098696#32, 1089616763#32, 1883843301#32, 150367447#32, 2167314424#32, 1546856719#32, 2164931188#32, 88187938#32⟩ := by
  show step (steps pM pV 49) (kL.getD 49 0) (sch pM 49) = _
  rw [ps49, pw49]
  kernel_rfl
theorem ps51 : steps pM pV 51 = ⟨933652460#32, 85098696#32, 1089616763#32, 1883843301#32, 3007512872#32, 2167314424#32, 1546856719#32, 2164931188#32⟩ := by
  show step (steps pM pV 50) (kL.getD 50 0) (sch pM 50) = _
  rw [ps50, pw50]
  kernel_rfl
theorem ps52 : steps pM pV 52 = ⟨1341854243#32, 933652460#32, 85098696#32, 1089616763#32, 259687690#32, 3007512872#32, 2167314424#32, 1546856719#32⟩ := by
  show step (steps pM pV 51) (kL.getD 51 0) (sch pM 51) = _
  rw [ps51, pw51]
  kernel_rfl
theorem ps53 : steps pM pV 53 = ⟨1111231637#32, 1341854243#32, 933652460#32, 85098696#32, 3436187321#32, 259687690#32, 3007512872#32, 2167314424#32⟩ := by
  show step (steps pM pV 52) (kL.getD 52 0) (sch pM 52) = _
  rw [ps52, pw52]
  kernel_rfl
theorem ps54 : steps pM pV 54 = ⟨3132184275#32, 1111231637#32, 1341854243#32, 933652460#32, 3018754345#32, 3436187321#32, 259687690#32, 3007512872#32⟩ := by
  show step (steps pM pV 53) (kL.getD 53 0) (sch pM 53) = _
  rw [ps53, pw53]
  kernel_rfl
theorem ps55 : steps pM pV 55 = ⟨792163914#32, 3132184275#32, 1111231637#32, 1341854243#32, 2126117071#32, 3018754345#32, 3436187321#32, 259687690#32⟩ := by
  show step (steps pM pV 54) (kL.getD 54 0) (sch pM 54) = _
  rw [ps54, pw54]
  kernel_rfl
theorem ps56 : steps pM pV 56 = ⟨3752376420#32, 792163914#32, 3132184275#32, 1111231637#32, 556328735#32, 2126117071#32, 3018754345#32, 3436187321#32⟩ := by
  show step (steps pM pV 55) (kL.getD 55 0) (sch pM 55) = _
  rw [ps55, pw55]
  kernel_rfl
theorem ps57 : steps pM pV 57 = ⟨3719432146#32, 3752376420#32, 792163914#32, 3132184275#32, 168779267#32, 556328735#32, 2126117071#32, 3018754345#32⟩ := by
  show step (steps pM pV 56) (kL.getD 56 0) (sch pM 56) = _
  rw [ps56, pw56]
  kernel_rfl
theorem ps58 : steps pM pV 58 = ⟨3159347391#32, 3719432146#32, 3752376420#32, 792163914#32, 1432996414#32, 168779267#32, 556328735#32, 2126117071#32⟩ := by
  show step (steps pM pV 57) (kL.getD 57 0) (sch pM 57) = _
  rw [ps57, pw57]
  kernel_rfl
theorem ps59 : steps pM pV 59 = ⟨1577399631#32, 3159347391#32, 3719432146#32, 3752376420#32, 1508192771#32, 1432996414#32, 168779267#32, 556328735#32⟩ := by
  show step (steps pM pV 58) (kL.getD 58 0) (sch pM 58) = _
  rw [ps58, pw58]
  kernel_rfl
theorem ps60 : steps pM pV 60 = ⟨1778988073#32, 1577399631#32, 3159347391#32, 3719432146#32, 75257516#32, 1508192771#32, 1432996414#32, 168779267#32⟩ := by
  show step (steps pM pV 59) (kL.getD 59 0) (sch pM 59) = _
  rw [ps59, pw59]
  kernel_rfl
theorem ps61 : steps pM pV 61 = ⟨2365861491#32, 1778988073#32, 1577399631#32, 3159347391#32, 227494187#32, 75257516#32, 1508192771#32, 1432996414#32⟩ := by
  show step (steps pM pV 60) (kL.getD 60 0) (sch pM 60) = _
  rw [ps60, pw60]
  kernel_rfl
theorem ps62 : steps pM pV 62 = ⟨1541190093#32, 2365861491#32, 1778988073#32, 1577399631#32, 1237491864#32, 227494187#32, 75257516#32, 1508192771#32⟩ := by
  show step (steps pM pV 61) (kL.getD 61 0) (sch pM 61) = _
  rw [ps61, pw61]
  kernel_rfl
theorem ps63 : steps pM pV 63 = ⟨4064910953#32, 1541190093#32, 2365861491#32, 1778988073#32, 1525143382#32, 1237491864#32, 227494187#32, 75257516#32⟩ := by
  show step (steps pM pV 62) (kL.getD 62 0) (sch pM 62) = _
  rw [ps62, pw62]
  kernel_rfl
theorem ps64 : steps pM pV 64 = ⟨1133239604#32, 4064910953#32, 1541190093#32, 2365861491#32, 681836757#32, 1525143382#32, 1237491864#32, 227494187#32⟩ := by
  show step (steps pM pV 63) (kL.getD 63 0) (sch pM 63) = _
  rw [ps63, pw63]
  kernel_rfl
theorem g55_run : run (pad g55L) 1 = ⟨2912273307#32, 2914077934#32, 2555094335#32, 844374957#32, 2041729876#32, 4125966306#32, 1766226499#32, 1768953412#32⟩ := by
  rw [g55_pad]
  show add8 pV (steps pM pV 64) = _
  rw [ps64]
  rfl
theorem g55_sum : sum g55L = [173#8, 149#8, 195#8, 155#8, 173#8, 177#8, 76#8, 238#8, 152#8, 75#8, 165#8, 63#8, 50#8, 84#8, 35#8, 173#8, 121#8, 178#8, 83#8, 84#8, 245#8, 237#8, 63#8, 226#8, 105#8, 70#8, 122#8, 67#8, 105#8, 112#8, 22#8, 68#8] := by
  have e : sum g55L = out ⟨2912273307#32, 2914077934#32, 2555094335#32, 844374957#32, 2041729876#32, 4125966306#32, 1766226499#32, 1768953412#32⟩ := by
    unfold sum
    rw [show (pad g55L).length / 64 = 1 by rw [g55_pad]; rfl, g55_run]
  rw [e]
  decide +kernel
def g32L : List (BitVec 8) := [173#8, 149#8, 195#8, 155#8, 173#8, 177#8, 76#8, 238#8, 152#8, 75#8, 165#8, 63#8, 50#8, 84#8, 35#8, 173#8, 121#8, 178#8, 83#8, 84#8, 245#8, 237#8, 63#8, 226#8, 105#8, 70#8, 122#8, 67#8, 105#8, 112#8, 22#8, 68#8]
theorem g32_pad : pad g32L = [173#8, 149#8, 195#8, 155#8, 173#8, 177#8, 76#8, 238#8, 152#8, 75#8, 165#8, 63#8, 50#8, 84#8, 35#8, 173#8, 121#8, 178#8, 83#8, 84#8, 245#8, 237#8, 63#8, 226#8, 105#8, 70#8, 122#8, 67#8, 105#8, 112#8, 22#8, 68#8, 128#8, 0#8, 0#8, 0#8, 0#8, 0#8, 0#8, 0#8, 0#8, 0#8, 0#8, 0#8, 0#8, 0#8, 0#8, 0#8, 0#8, 0#8, 0#8, 0#8, 0#8, 0#8, 0#8, 0#8, 0#8, 0#8, 0#8, 0#8, 0#8, 0#8, 1#8, 0#8] := by decide +kernel
def qM : Nat → BitVec 32 := blk [173#8, 149#8, 195#8, 155#8, 173#8, 177#8, 76#8, 238#8, 152#8, 75#8, 165#8, 63#8, 50#8, 84#8, 35#8, 173#8, 121#8, 178#8, 83#8, 84#8, 245#8, 237#8, 63#8, 226#8, 105#8, 70#8, 122#8, 67#8, 105#8, 112#8, 22#8, 68#8, 128#8, 0#8, 0#8, 0#8, 0#8, 0#8, 0#8, 0#8, 0#8, 0#8, 0#8, 0#8, 0#8, 0#8, 0#8, 0#8, 0#8, 0#8, 0#8, 0#8, 0#8, 0#8, 0#8, 0#8, 0#8, 0#8, 0#8, 0#8, 0#8, 0#8, 1#8, 0#8] 0
theorem qw0 : sch qM 0 = 2912273307#32 := by rw [sch_lo _ (by omega)]; decide +kernel
theorem qw1 : sch qM 1 = 2914077934#32 := by rw [sch_lo _ (by omega)]; decide +kernel
theorem qw2 : sch qM 2 = 2555094335#32 := by rw [sch_lo _ (by omega)]; decide +kernel
theorem qw3 : sch qM 3 = 844374957#32 := by rw [sch_lo _ (by omega)]; decide +kernel
theorem qw4 : sch qM 4 = 2041729876#32 := by rw [sch_lo _ (by omega)]; decide +kernel
theorem qw5 : sch qM 5 = 4125966306#32 := by rw [sch_lo _ (by omega)]; decide +kernel
theorem qw6 : sch qM 6 = 1766226499#32 := by rw [sch_lo _ (by omega)]; decide +kernel
theorem qw7 : sch qM 7 = 1768953412#32 := by rw [sch_lo _ (by omega)]; decide +kernel
theorem qw8 : sch qM 8 = 2147483648#32 := by rw [sch_lo _ (by omega)]; decide +kernel
theorem qw9 : sch qM 9 = 0#32 := by rw [sch_lo _ (by omega)]; decide +kernel
theorem qw10 : sch qM 10 = 0#32 := by rw [sch_lo _ (by omega)]; decide +kernel
theorem qw11 : sch qM 11 = 0#32 := by rw [sch_lo _ (by omega)]; decide +kernel
theorem qw12 : sch qM 12 = 0#32 := by rw [sch_lo _ (by omega)]; decide +kernel
theorem qw13 : sch qM 13 = 0#32 := by rw [sch_lo _ (by omega)]; decide +kernel
theorem qw14 : sch qM 14 = 0#32 := by rw [sch_lo _ (by omega)]; decide +kernel
theorem qw15 : sch qM 15 = 256#32 := by rw [sch_lo _ (by omega)]; decide +kernel
theorem qw16 : sch qM 16 = 1231856643#32 := by rw [sch_hi _ (by omega), show 16 - 2 = 14 from rfl, show 16 - 7 = 9 from rfl, show 16 - 15 = 1 from rfl, show 16 - 16 = 0 from rfl, qw14, qw9, qw1, qw0]; decide +kernel
theorem qw17 : sch qM 17 = 868700909#32 := by rw [sch_hi _ (by omega), show 17 - 2 = 15 from rfl, show 17 - 7 = 10 from rfl, show 17 - 15 = 2 from rfl, show 17 - 16 = 1 from rfl, qw15, qw10, qw2, qw1]; decide +kernel
theorem qw18 : sch qM 18 = 3013909656#32 := by rw [sch_hi _ (by omega), show 18 - 2 = 16 from rfl, show 18 - 7 = 11 from rfl, show 18 - 15 = 3 from rfl, show 18 - 16 = 2 from rfl, qw16, qw11, qw3, qw2]; decide +kernel
theorem qw19 : sch qM 19 = 2827756188#32 := by rw [sch_hi _ (by omega), show 19 - 2 = 17 from rfl, show 19 - 7 = 12 from rfl, show 19 - 15 = 4 from rfl, show 19 - 16 = 3 from rfl, qw17, qw12, qw4, qw3]; decide +kernel
theorem qw20 : sch qM 20 = 3964975821#32 := by rw [sch_hi _ (by omega), show 20 - 2 = 18 from rfl, show 20 - 7 = 13 from rfl, show 20 - 15 = 5 from rfl, show 20 - 16 = 4 from rfl, qw18, qw13, qw5, qw4]; decide +kernel
theorem qw21 : sch qM 21 = 2693774382#32 := by rw [sch_hi _ (by omega), show 21 - 2 = 19 from rfl, show 21 - 7 = 14 from rfl, show 21 - 15 = 6 from rfl, show 21 - 16 = 5 from rfl, qw19, qw14, qw6, qw5]; decide +kernel
theorem qw22 : sch qM 22 = 3015234185#32 := by rw [sch_hi _ (by omega), show 22 - 2 = 20 from rfl, show 22 - 7 = 15 from rfl, show 22 - 15 = 7 from rfl, show 22 - 16 = 6 from rfl, qw20, qw15, qw7, qw6]; decide +kernel
theorem qw23 : sch qM 23 = 3986129408#32 := by rw [sch_hi _ (by omega), show 23 - 2 = 21 from rfl, show 23 - 7 = 16 from rfl, show 23 - 15 = 8 from rfl, show 23 - 16 = 7 from rfl, qw21, qw16, qw8, qw7]; decide +kernel
theorem qw24 : sch qM 24 = 654333068#32 := by rw [sch_hi _ (by omega), show 24 - 2 = 22 from rfl, show 24 - 7 = 17 from rfl, show 24 - 15 = 9 from rfl, show 24 - 16 = 8 from rfl, qw22, qw17, qw9, qw8]; decide +kernel
theorem qw25 : sch qM 25 = 3844057905#32 := by rw [sch_hi _ (by omega), show 25 - 2 = 23 from rfl, show 25 - 7 = 18 from rfl, show 25 - 15 = 10 from rfl, show 25 - 16 = 9 from rfl, qw23, qw18, qw10, qw9]; decide +kernel
theorem qw26 : sch qM 26 = 3379198481#32 := by rw [sch_hi _ (by omega), show 26 - 2 = 24 from rfl, show 26 - 7 = 19 from rfl, show 26 - 15 = 11 from rfl, show 26 - 16 = 10 from rfl, qw24, qw19, qw11, qw10]; decide +kernel
theorem qw27 : sch qM 27 = 219956371#32 := by rw [sch_hi _ (by omega), show 27 - 2 = 25 from rfl, show 27 - 7 = 20 from rfl, show 27 - 15 = 12 from rfl, show 27 - 16 = 11 from rfl, qw25, qw20, qw12, qw11]; decide +kernel
theorem qw28 : sch qM 28 = 319308596#32 := by rw [sch_hi _ (by omega), show 28 - 2 = 26 from rfl, show 28 - 7 = 21 from rfl, show 28 - 15 = 13 from rfl, show 28 - 16 = 12 from rfl, qw26, qw21, qw13, qw12]; decide +kernel
theorem qw29 : sch qM 29 = 1586590405#32 := by rw [sch_hi _ (by omega), show 29 - 2 = 27 from rfl, show 29 - 7 = 22 from rfl, show 29 - 15 = 14 from rfl, show 29 - 16 = 13 from rfl, qw27, qw22, qw14, qw13]; decide +kernel
theorem qw30 : sch qM 30 = 399494167#32 := by rw [sch_hi _ (by omega), show 30 - 2 = 28 from rfl, show 30 - 7 = 23 from rfl, show 30 - 15 = 15 from rfl, show 30 - 16 = 14 from rfl, qw28, qw23, qw15, qw14]; decide +kernel
theorem qw31 : sch qM 31 = 3840775653#32 := by rw [sch_hi _ (by omega), show 31 - 2 = 29 from rfl, show 31 - 7 = 24 from rfl, show 31 - 15 = 16 from rfl, show 31 - 16 = 15 from rfl, qw29, qw24, qw16, qw15]; decide +kernel
theorem qw32 : sch qM 32 = 1455231530#32 := by rw [sch_hi _ (by omega), show 32 - 2 = 30 from rfl, show 32 - 7 = 25 from rfl, show 32 - 15 = 17 from rfl, show 32 - 16 = 16 from rfl, qw30, qw25, qw17, qw16]; decide +kernel
theorem qw33 : sch qM 33 = 1977563343#32 := by rw [sch_hi _ (by omega), show 33 - 2 = 31 from rfl, show 33 - 7 = 26 from rfl, show 33 - 15 = 18 from rfl, show 33 - 16 = 17 from rfl, qw31, qw26, qw18, qw17]; decide +kernel
theorem qw34 : sch qM 34 = 284059181#32 := by rw [sch_hi _ (by omega), show 34 - 2 = 32 from rfl, show 34 - 7 = 27 from rfl, show 34 - 15 = 19 from rfl, show 34 - 16 = 18 from rfl, qw32, qw27, qw19, qw18]; decide +kernel
theorem qw35 : sch qM 35 = 3755527843#32 := by rw [sch_hi _ (by omega), show 35 - 2 = 33 from rfl, show 35 - 7 = 28 from rfl, show 35 - 15 = 20 from rfl, show 35 - 16 = 19 from rfl, qw33, qw28, qw20, qw19]; decide +kernel
theorem qw36 : sch qM 36 = 4044914787#32 := by rw [sch_hi _ (by omega), show 36 - 2 = 34 from rfl, show 36 - 7 = 29 from rfl, show 36 - 15 = 21 from rfl, show 36 - 16 = 20 from rfl, qw34, qw29, qw21, qw20]; decide +kernel
theorem qw37 : sch qM 37 = 1757671811#32 := by rw [sch_hi _ (by omega), show 37 - 2 = 35 from rfl, show 37 - 7 = 30 from rfl, show 37 - 15 = 22 from rfl, show 37 - 16 = 21 from rfl, qw35, qw30, qw22, qw21]; decide +kernel
theorem qw38 : sch qM 38 = 3851554078#32 := by rw [sch_hi _ (by omega), show 38 - 2 = 36 from rfl, show 38 - 7 = 31 from rfl, show 38 - 15 = 23 from rfl, show 38 - 16 = 22 from rfl, qw36, qw31, qw23, qw22]; decide +kernel
theorem qw39 : sch qM 39 = 3570237863#32 := by rw [sch_hi _ (by omega), show 39 - 2 = 37 from rfl, show 39 - 7 = 32 from rfl, show 39 - 15 = 24 from rfl, show 39 - 16 = 23 from rfl, qw37, qw32, qw24, qw23]; decide +kernel
theorem qw40 : sch qM 40 = 2040204234#32 := by rw [sch_hi _ (by omega), show 40 - 2 = 38 from rfl, show 40 - 7 = 33 from rfl, show 40 - 15 = 25 from rfl, show 40 - 16 = 24 from rfl, qw38, qw33, qw25, qw24]; decide +kernel
theorem qw41 : sch qM 41 = 186392297#32 := by rw [sch_hi _ (by omega), show 41 - 2 = 39 from rfl, show 41 - 7 = 34 from rfl, show 41 - 15 = 26 from rfl, show 41 - 16 = 25 from rfl, qw39, qw34, qw26, qw25]; decide +kernel
theorem qw42 : sch qM 42 = 3294810444#32 := by rw [sch_hi _ (by omega), show 42 - 2 = 40 from rfl, show 42 - 7 = 35 from rfl, show 42 - 15 = 27 from rfl, show 42 - 16 = 26 from rfl, qw40, qw35, qw27, qw26]; decide +kernel
theorem qw43 : sch qM 43 = 90850562#32 := by rw [sch_hi _ (by omega), show 43 - 2 = 41 from rfl, show 43 - 7 = 36 from rfl, show 43 - 15 = 28 from rfl, show 43 - 16 = 27 from rfl, qw41, qw36, qw28, qw27]; decide +kernel
theorem qw44 : sch qM 44 = 2355720665#32 := by rw [sch_hi _ (by omega), show 44 - 2 = 42 from rfl, show 44 - 7 = 37 from rfl, show 44 - 15 = 29 from rfl, show 44 - 16 = 28 from rfl, qw42, qw37, qw29, qw28]; decide +kernel
theorem qw45 : sch qM 45 = 2383887445#32 := by rw [sch_hi _ (by omega), show 45 - 2 = 43 from rfl, show 45 - 7 = 38 from rfl, show 45 - 15 = 30 from rfl, show 45 - 16 = 29 from rfl, qw43, qw38, qw30, qw29]; decide +kernel
theorem qw46 : sch qM 46 = 901729359#32 := by rw [sch_hi _ (by omega), show 46 - 2 = 44 from rfl, show 46 - 7 = 39 from rfl, show 46 - 15 = 31 from rfl, show 46 - 16 = 30 from rfl, qw44, qw39, qw31, qw30]; decide +kernel
theorem qw47 : sch qM 47 = 4076659331#32 := by rw [sch_hi _ (by omega), show 47 - 2 = 45 from rfl, show 47 - 7 = 40 from rfl, show 47 - 15 = 32 from rfl, show 47 - 16 = 31 from rfl, qw45, qw40, qw32, qw31]; decide +kernel
theorem qw48 : sch qM 48 = 266324205#32 := by rw [sch_hi _ (by omega), show 48 - 2 = 46 from rfl, show 48 - 7 = 41 from rfl, show 48 - 15 = 33 from rfl, show 48 - 16 = 32 from rfl, qw46, qw41, qw33, qw32]; decide +kernel
theorem qw49 : sch qM 49 = 3911620198#32 := by rw [sch_hi _ (by omega), show 49 - 2 = 47 from rfl, show 49 - 7 = 42 from rfl, show 49 - 15 = 34 from rfl, show 49 - 16 = 33 from rfl, qw47, qw42, qw34, qw33]; decide +kernel
theorem qw50 : sch qM 50 = 2746080468#32 := by rw [sch_hi _ (by omega), show 50 - 2 = 48 from rfl, show 50 - 7 = 43 from rfl, show 50 - 15 = 35 from rfl, show 50 - 16 = 34 from rfl, qw48, qw43, qw35, qw34]; decide +kernel
theorem qw51 : sch qM 51 = 4293000664#32 := by rw [sch_hi _ (by omega), show 51 - 2 = 49 from rfl, show 51 - 7 = 44 from rfl, show 51 - 15 = 36 from rfl, show 51 - 16 = 35 from rfl, qw49, qw44, qw36, qw35]; decide +kernel
theorem qw52 : sch qM 52 = 3434155887#32 := by rw [sch_hi _ (by omega), show 52 - 2 = 50 from rfl, show 52 - 7 = 45 from rfl, show 52 - 15 = 37 from rfl, show 52 - 16 = 36 from rfl, qw50, qw45, qw37, qw36]; decide +kernel
theorem qw53 : sch qM 53 = 36352802#32 := by rw [sch_hi _ (by omega), show 53 - 2 = 51 from rfl, show 53 - 7 = 46 from rfl, show 53 - 15 = 38 from rfl, show 53 - 16 = 37 from rfl, qw51, qw46, qw38, qw37]; decide +kernel
theorem qw54 : sch qM 54 = 3025273138#32 := by rw [sch_hi _ (by omega), show 54 - 2 = 52 from rfl, show 54 - 7 = 47 from rfl, show 54 - 15 = 39 from rfl, show 54 - 16 = 38 from rfl, qw52, qw47, qw39, qw38]; decide +kernel
theorem qw55 : sch qM 55 = 1305862040#32 := by rw [sch_hi _ (by omega), show 55 - 2 = 53 from rfl, show 55 - 7 = 48 from rfl, show 55 - 15 = 40 from rfl, show 55 - 16 = 39 from rfl, qw53, qw48, qw40, qw39]; decide +kernel
theorem qw56 : sch qM 56 = 2015605626#32 := by rw [sch_hi _ (by omega), show 56 - 2 = 54 from rfl, show 56 - 7 = 49 from rfl, show 56 - 15 = 41 from rfl, show 56 - 16 = 40 from rfl, qw54, qw49, qw41, qw40]; decide +kernel
theorem qw57 : sch qM 57 = 944637047#32 := by rw [sch_hi _ (by omega), show 57 - 2 = 55 from rfl, show 57 - 7 = 50 from rfl, show 57 - 15 = 42 from rfl, show 57 - 16 = 41 from rfl, qw55, qw50, qw42, qw41]; decide +kernel
theorem qw58 : sch qM 58 = 167274637#32 := by rw [sch_hi _ (by omega), show 58 - 2 = 56 from rfl, show 58 - 7 = 51 from rfl, show 58 - 15 = 43 from rfl, show 58 - 16 = 42 from rfl, qw56, qw51, qw43, qw42]; decide +kernel
theorem qw59 : sch qM 59 = 2478464226#32 := by rw [sch_hi _ (by omega), show 59 - 2 = 57 from rfl, show 59 - 7 = 52 from rfl, show 59 - 15 = 44 from rfl, show 59 - 16 = 43 from rfl, qw57, qw52, qw44, qw43]; decide +kernel
theorem qw60 : sch qM 60 = 1035283275#32 := by rw [sch_hi _ (by omega), show 60 - 2 = 58 from rfl, show 60 - 7 = 53 from rfl, show 60 - 15 = 45 from rfl, show 60 - 16 = 44 from rfl, qw58, qw53, qw45, qw44]; decide +kernel
theorem qw61 : sch qM 61 = 4093807938#32 := by rw [sch_hi _ (by omega), show 61 - 2 = 59 from rfl, show 61 - 7 = 54 from rfl, show 61 - 15 = 46 from rfl, show 61 - 16 = 45 from rfl, qw59, qw54, qw46, qw45]; decide +kernel
theorem qw62 : sch qM 62 = 3581106487#32 := by rw [sch_hi _ (by omega), show 62 - 2 = 60 from rfl, show 62 - 7 = 55 from rfl, show 62 - 15 = 47 from rfl, show 62 - 16 = 46 from rfl, qw60, qw55, qw47, qw46]; decide +kernel
theorem qw63 : sch qM 63 = 2889072538#32 := by rw [sch_hi _ (by omega), show 63 - 2 = 61 from rfl, show 63 - 7 = 56 from rfl, show 63 - 15 = 48 from rfl, show 63 - 16 = 47 from rfl, qw61, qw56, qw48, qw47]; decide +kernel
def qV : V8 := ⟨1779033703#32, 3144134277#32, 1013904242#32, 2773480762#32, 1359893119#32, 2600822924#32, 528734635#32, 1541459225#32⟩
theorem qs0 : steps qM qV 0 = ⟨1779033703#32, 3144134277#32, 1013904242#32, 2773480762#32, 1359893119#32, 2600822924#32, 528734635#32, 1541459225#32⟩ := rfl
theorem qs1 : steps qM qV 1 = ⟨2845723624#32, 1779033703#32, 3144134277#32, 1013904242#32, 1180542525#32, 1359893119#32, 2600822924#32, 528734635#32⟩ := by
  show step (steps qM qV 0) (kL.getD 0 0) (sch qM 0) = _
  rw [qs0, qw0]
  kernel_rfl
theorem qs2 : steps qM qV 2 = ⟨3942171913#32, 2845723624#32, 1779033703#32, 3144134277#32, 1883917544#32, 1180542525#32, 1359893119#32, 2600822924#32⟩ := by
  show step (steps qM qV 1) (kL.getD 1 0) (sch qM 1) = _
  rw [qs1, qw1]
  kernel_rfl
theorem qs3 : steps qM qV 3 = ⟨3771038899#32, 3942171913#32, 2845723624#32, 1779033703#32, 4289667744#32, 1883917544#32, 1180542525#32, 1359893119#32⟩ := by
  show step (steps qM qV 2) (kL.getD 2 0) (sch qM 2) = _
  rw [qs2, qw2]
  kernel_rfl
theorem qs4 : steps qM qV 4 = ⟨3474707404#32, 3771038899#32, 3942171913#32, 2845723624#32, 1206703622#32, 4289667744#32, 1883917544#32, 1180542525#32⟩ := by
  show step (steps qM qV 3) (kL.getD 3 0) (sch qM 3) = _
  rw [qs3, qw3]
  kernel_rfl
theorem qs5 : steps qM qV 5 = ⟨1318758735#32, 3474707404#32, 3771038899#32, 3942171913#32, 1248813213#32, 1206703622#32, 4289667744#32, 1883917544#32⟩ := by
  show step (steps qM qV 4) (kL.getD 4 0) (sch qM 4) = _
  rw [qs4, qw4]
  kernel_rfl
theorem qs6 : steps qM qV 6 = ⟨3411770677#32, 1318758735#32, 3474707404#32, 3771038899#32, 4097729715#32, 1248813213#32, 1206703622#32, 4289667744#32⟩ := by
  show step (steps qM qV 5) (kL.getD 5 0) (sch qM 5) = _
  rw [qs5, qw5]
  kernel_rfl
theorem qs7 : steps qM qV 7 = ⟨1265141192#32, 3411770677#32, 1318758735#32, 3474707404#32, 1720039027#32, 4097729715#32, 1248813213#32, 1206703622#32⟩ := by
  show step (steps qM qV 6) (kL.getD 6 0) (sch qM 6) = _
  rw [qs6, qw6]
  kernel_rfl
theorem qs8 : steps qM qV 8 = ⟨4093622306#32, 1265141192#32, 3411770677#32, 1318758735#32, 3643900806#32, 1720039027#32, 4097729715#32, 1248813213#32⟩ := by
  show step (steps qM qV 7) (kL.getD 7 0) (sch qM 7) = _
  rw [qs7, qw7]
  kernel_rfl
theorem qs9 : steps qM qV 9 = ⟨1216990228#32, 4093622306#32, 1265141192#32, 3411770677#32, 1218428425#32, 3643900806#32, 1720039027#32, 4097729715#32⟩ := by
  show step (steps qM qV 8) (kL.getD 8 0) (sch qM 8) = _
  rw [qs8, qw8]
  kernel_rfl
theorem qs10 : steps qM qV 10 = ⟨3259080250#32, 1216990228#32, 4093622306#32, 1265141192#32, 3959630086#32, 1218428425#32, 3643900806#32, 1720039027#32⟩ := by
  show step (steps qM qV 9) (kL.getD 9 0) (sch qM 9) = _
  rw [qs9, qw9]
  kernel_rfl
theorem qs11 : steps qM qV 11 = ⟨686567717#32, 3259080250#32, 1216990228#32, 4093622306#32, 1783397424#32, 3959630086#32, 1218428425#32, 3643900806#32⟩ := by
  show step (steps qM qV 10) (kL.getD 10 0) (sch qM 10) = _
  rw [qs10, qw10]
  kernel_rfl
theorem qs12 : steps qM qV 12 = ⟨3037497179#32, 686567717#32, 3259080250#32, 1216990228#32, 3966485438#32, 1783397424#32, 3959630086#32, 1218428425#32⟩ := by
  show step (steps qM qV 11) (kL.getD 11 0) (sch qM 11) = _
  rw [qs11, qw11]
  kernel_rfl
theorem qs13 : steps qM qV 13 = ⟨1661271886#32, 3037497179#32, 686567717#32, 3259080250#32, 633228481#32, 3966485438#32, 1783397424#32, 3959630086#32⟩ := by
  show step (steps qM qV 12) (kL.getD 12 0) (sch qM 12) = _
  rw [qs12, qw12]
  kernel_rfl
theorem qs14 : steps qM qV 14 = ⟨2973519843#32, 1661271886#32, 3037497179#32, 686567717#32, 3777108054#32, 633228481#32, 3966485438#32, 1783397424#32⟩ := by
  show step (steps qM qV 13) (kL.getD 13 0) (sch qM 13) = _
  rw [qs13, qw13]
  kernel_rfl
theorem qs15 : steps qM qV 15 = ⟨123910714#32, 2973519843#32, 1661271886#32, 3037497179#32, 483723062#32, 3777108054#32, 633228481#32, 3966485438#32⟩ := by
  show step (steps qM qV 14) (kL.getD 14 0) (sch qM 14) = _
  rw [qs14, qw14]
  kernel_rfl
theorem qs16 : steps qM qV 16 = ⟨560648619#32, 123910714#32, 2973519843#32, 1661271886#32, 3631340566#32, 483723062#32, 3777108054#32, 633228481#32⟩ := by
  show step (steps qM qV 15) (kL.getD 15 0) (sch qM 15) = _
  rw [qs15, qw15]
  kernel_rfl
theorem qs17 : steps qM qV 17 = ⟨2115899494#32, 560648619#32, 123910714#32, 2973519843#32, 3513983056#32, 3631340566#32, 483723062#32, 3777108054#32⟩ := by
  show step (steps qM qV 16) (kL.getD 16 0) (sch qM 16) = _
  rw [qs16, qw16]
  kernel_rfl
theorem qs18 : steps qM qV 18 = ⟨1590493639#32, 2115899494#32, 560648619#32, 123910714#32, 2208879727#32, 3513983056#32, 3631340566#32, 483723062#32⟩ := by
  show step (steps qM qV 17) (kL.getD 17 0) (sch qM 17) = _
  rw [qs17, qw17]
  kernel_rfl
theorem qs19 : steps qM qV 19 = ⟨220063927#32, 1590493639#32, 2115899494#32, 560648619#32, 2829313448#32, 2208879727#32, 3513983056#32, 3631340566#32⟩ := by
  show step (steps qM qV 18) (kL.getD 18 0) (sch qM 18) = _
  rw [qs18, qw18]
  kernel_rfl
theorem qs20 : steps qM qV 20 = ⟨213615761#32, 220063927#32, 1590493639#32, 2115899494#32, 3735783007#32, 2829313448#32, 2208879727#32, 3513983056#32⟩ := by
  show step (steps qM qV 19) (kL.getD 19 0) (sch qM 19) = _
  rw [qs19, qw19]
  kernel_rfl
theorem qs21 : steps qM qV 21 = ⟨3974721947#32, 213615761#32, 220063927#32, 1590493639#32, 3568648352#32, 3735783007#32, 2829313448#32, 2208879727#32⟩ := by
  show step (steps qM qV 20) (kL.getD 20 0) (sch qM 20) = _
  rw [qs20, qw20]
  kernel_rfl
theorem qs22 : steps qM qV 22 = ⟨404095808#32, 3974721947#32, 213615761#32, 220063927#32, 2550517718#32, 3568648352#32, 3735783007#32, 2829313448#32⟩ := by
  show step (steps qM qV 21) (kL.getD 21 0) (sch qM 21) = _
  rw [qs21, qw21]
  kernel_rfl
theorem qs23 : steps qM qV 23 = ⟨2194989297#32, 404095808#32, 3974721947#32, 213615761#32, 1060079639#32, 2550517718#32, 3568648352#32, 3735783007#32⟩ := by
  show step (steps qM qV 22) (kL.getD 22 0) (sch qM 22) = _
  rw [qs22, qw22]
  kernel_rfl
theorem qs24 : steps qM qV 24 = ⟨2738943134#32, 2194989297#32, 404095808#32, 3974721947#32, 4067241678#32, 1060079639#32, 2550517718#32, 3568648352#32⟩ := by
  show step (steps qM qV 23) (kL.getD 23 0) (sch qM 23) = _
  rw [qs23, qw23]
  kernel_rfl
theorem qs25 : steps qM qV 25 = ⟨888048760#32, 2738943134#32, 2194989297#32, 404095808#32, 2408300438#32, 4067241678#32, 1060079639#32, 2550517718#32⟩ := by
  show step (steps qM qV 24) (kL.getD 24 0) (sch qM 24) = _
  rw [qs24, qw24]
  kernel_rfl
theorem qs26 : steps qM qV 26 = ⟨3158658682#32, 888048760#32, 2738943134#32, 2194989297#32, 1556776969#32, 2408300438#32, 4067241678#32, 1060079639#32⟩ := by
  show step (steps qM qV 25) (kL.getD 25 0) (sch qM 25) = _
  rw [qs25, qw25]
  kernel_rfl
theorem qs27 : steps qM qV 27 = ⟨648788052#32, 3158658682#32, 888048760#32, 2738943134#32, 725512582#32, 1556776969#32, 2408300438#32, 4067241678#32⟩ := by
  show step (steps qM qV 26) (kL.getD 26 0) (sch qM 26) = _
  rw [qs26, qw26]
  kernel_rfl
theorem qs28 : steps qM qV 28 = ⟨2644113055#32, 648788052#32, 3158658682#32, 888048760#32, 2785071859#32, 725512582#32, 1556776969#32, 2408300438#32⟩ := by
  show step (steps qM qV 27) (kL.getD 27 0) (sch qM 27) = _
  rw [qs27, qw27]
  kernel_rfl
theorem qs29 : steps qM qV 29 = ⟨1703874373#32, 2644113055#32, 648788052#32, 3158658682#32, 2847059521#32, 2785071859#32, 725512582#32, 1556776969#32⟩ := by
  show step (steps qM qV 28) (kL.getD 28 0) (sch qM 28) = _
  rw [qs28, qw28]
  kernel_rfl
theorem qs30 : steps qM qV 30 = ⟨2413229224#32, 1703874373#32, 2644113055#32, 648788052#32, 119179918#32, 2847059521#32, 2785071859#32, 725512582#32⟩ := by
  show step (steps qM qV 29) (kL.getD 29 0) (sch qM 29) = _
  rw [qs29, qw29]
  kernel_rfl
theorem qs31 : steps qM qV 31 = ⟨982032902#32, 2413229224#32, 1703874373#32, 2644113055#32, 4130406955#32, 119179918#32, 2847059521#32, 2785071859#32⟩ := by
  show step (steps qM qV 30) (kL.getD 30 0) (sch qM 30) = _
  rw [qs30, qw30]
  kernel_rfl
theorem qs32 : steps qM qV 32 = ⟨2356929166#32, 982032902#32, 2413229224#32, 1703874373#32, 1047219963#32, 4130406955#32, 119179918#32, 2847059521#32⟩ := by
  show step (steps qM qV 31) (kL.getD 31 0) (sch qM 31) = _
  rw [qs31, qw31]
  kernel_rfl
theorem qs33 : steps qM qV 33 = ⟨1296887495#32, 2356929166#32, 982032902#32, 2413229224#32, 3407903281#32, 1047219963#32, 4130406955#32, 119179918#32⟩ := by
  show step (steps qM qV 32) (kL.getD 32 0) (sch qM 32) = _
  rw [qs32, qw32]
  kernel_rfl
theorem qs34 : steps qM qV 34 = ⟨2643090235#32, 1296887495#32, 2356929166#32, 982032902#32, 2319851642#32, 3407903281#32, 1047219963#32, 4130406955#32⟩ := by
  show step (steps qM qV 33) (kL.getD 33 0) (sch qM 33) = _
  rw [qs33, qw33]
  kernel_rfl
theorem qs35 : steps qM qV 35 = ⟨2113614206#32, 2643090235#32, 1296887495#32, 2356929166#32, 325473291#32, 2319851642#32, 3407903281#32, 1047219963#32⟩ := by
  show step (steps qM qV 34) (kL.getD 34 0) (sch qM 34) = _
  rw [qs34, qw34]
  kernel_rfl
theorem qs36 : steps qM qV 36 = ⟨2950404846#32, 2113614206#32, 2643090235#32, 1296887495#32, 3863226252#32, 325473291#32, 2319851642#32, 3407903281#32⟩ := by
  show step (steps qM qV 35) (kL.getD 35 0) (sch qM 35) = _
  rw [qs35, qw35]
  kernel_rfl
theorem qs37 : steps qM qV 37 = ⟨3697463073#32, 2950404846#32, 2113614206#32, 2643090235#32, 1491894162#32, 3863226252#32, 325473291#32, 2319851642#32⟩ := by
  show step (steps qM qV 36) (kL.getD 36 0) (sch qM 36) = _
  rw [qs36, qw36]
  kernel_rfl
theorem qs38 : steps qM qV 38 = ⟨4244118715#32, 3697463073#32, 2950404846#32, 2113614206#32, 391906521#32, 1491894162#32, 3863226252#32, 325473291#32⟩ := by
  show step (steps qM qV 37) (kL.getD 37 0) (sch qM 37) = _
  rw [qs37, qw37]
  kernel_rfl
theorem qs39 : steps qM qV 39 = ⟨3021141707#32, 4244118715#32, 3697463073#32, 2950404846#32, 981498497#32, 391906521#32, 1491894162#32, 3863226252#32⟩ := by
  show step (steps qM qV 38) (kL.getD 38 0) (sch qM 38) = _
  rw [qs38, qw38]
  kernel_rfl
theorem qs40 : steps qM qV 40 = ⟨3251961699#32, 3021141707#32, 4244118715#32, 3697463073#32, 1690011569#32, 981498497#32, 391906521#32, 1491894162#32⟩ := by
  show step (steps qM qV 39) (kL.getD 39 0) (sch qM 39) = _
  rw [qs39, qw39]
  kernel_rfl
theorem qs41 : steps qM qV 41 = ⟨1693505029#32, 3251961699#32, 3021141707#32, 4244118715#32, 4092323779#32, 1690011569#32, 981498497#32, 391906521#32⟩ := by
  show step (steps qM qV 40) (kL.getD 40 0) (sch qM 40) = _
  rw [qs40, qw40]
  kernel_rfl
theorem qs42 : steps qM qV 42 = ⟨1151359615#32, 1693505029#32, 3251961699#32, 3021141707#32, 846756195#32, 4092323779#32, 1690011569#32, 981498497#32⟩ := by
  show step (steps qM qV 41) (kL.getD 41 0) (sch qM 41) = _
  rw [qs41, qw41]
  kernel_rfl
theorem qs43 : steps qM qV 43 = ⟨2639956857#32, 1151359615#32, 1693505029#32, 3251961699#32, 2294338894#32, 846756195#32, 4092323779#32, 1690011569#32⟩ := by
  show step (steps qM qV 42) (kL.getD 42 0) (sch qM 42) = _
  rw [qs42, qw42]
  kernel_rfl
theorem qs44 : steps qM qV 44 = ⟨876533536#32, 2639956857#32, 1151359615#32, 1693505029#32, 1516981639#32, 2294338894#32, 846756195#32, 4092323779#32⟩ := by
  show step (steps qM qV 43) (kL.getD 43 0) (sch qM 43) = _
  rw [qs43, qw43]
  kernel_rfl
theorem qs45 : steps qM qV 45 = ⟨1978289012#32, 876533536#32, 2639956857#32, 1151359615#32, 2001580306#32, 1516981639#32, 2294338894#32, 846756195#32⟩ := by
  show step (steps qM qV 44) (kL.getD 44 0) (sch qM 44) = _
  rw [qs44, qw44]
  kernel_rfl
theorem qs46 : steps qM qV 46 = ⟨1689063227#32, 1978289012#32, 876533536#32, 2639956857#32, 2212344306#32, 2001580306#32, 1516981639#32, 2294338894#32⟩ := by
  show step (steps qM qV 45) (kL.getD 45 0) (sch qM 45) = _
  rw [qs45, qw45]
  kernel_rfl
theorem qs47 : steps qM qV 47 = ⟨2986418893#32, 1689063227#32, 1978289012#32, 876533536#32, 3319845858#32, 2212344306#32, 2001580306#32, 1516981639#32⟩ := by
  show step (steps qM qV 46) (kL.getD 46 0) (sch qM 46) = _
  rw [qs46, qw46]
  kernel_rfl
theorem qs48 : steps qM qV 48 = ⟨198658706#32, 2986418893#32, 1689063227#32, 1978289012#32, 1292249027#32, 3319845858#32, 2212344306#32, 2001580306#32⟩ := by
  show step (steps qM qV 47) (kL.getD 47 0) (sch qM 47) = _
  rw [qs47, qw47]
  kernel_rfl
theorem qs49 : steps qM qV 49 = ⟨2362374096#32, 198658706#32, 2986418893#32, 1689063227#32, 1424258168#32, 1292249027#32, 3319845858#32, 2212344306#32⟩ := by
  show step (steps qM qV 48) (kL.getD 48 0) (sch qM 48) = _
  rw [qs48, qw48]
  kernel_rfl
theorem qs50 : steps qM qV 50 = ⟨2647886359#32, 2362374096#32, 198658706#32, 2986418893#32, 3511721170#32, 1424258168#32, 1292249027#32, 3319845858#32⟩ := by
  show step (steps qM qV 49) (kL.getD 49 0) (sch qM 49) = _
  rw [qs49, qw49]
  kernel_rfl
theorem qs51 : steps qM qV 51 = ⟨3995499867#32, 2647886359#32, 2362374096#32, 198658706#32, 409961256#32, 3511721170#32, 1424258168#32, 1292249027#32⟩ := by
  show step (steps qM qV 50) (kL.getD 50 0) (sch qM 50) = _
  rw [qs50, qw50]
  kernel_rfl
theorem qs52 : steps qM qV 52 = ⟨3731324864#32, 3995499867#32, 2647886359#32, 2362374096#32, 3570682146#32, 409961256#32, 3511721170#32, 1424258168#32⟩ := by
  show step (steps qM qV 51) (kL.getD 51 0) (sch qM 51) = _
  rw [qs51, qw51]
  kernel_rfl
theorem qs53 : steps qM qV 53 = ⟨1676357718#32, 3731324864#32, 3995499867#32, 2647886359#32, 3186784545#32, 3570682146#32, 409961256#32, 3511721170#32⟩ := by
  show step (steps qM qV 52) (kL.getD 52 0) (sch qM 52) = _
  rw [qs52, qw52]
  kernel_rfl
theorem qs54 : steps qM qV 54 = ⟨3089020144#32, 1676357718#32, 3731324864#32, 3995499867#32, 2969712370#32, 3186784545#32, 3570682146#32, 409961256#32⟩ := by
  show step (steps qM qV 53) (kL.getD 53 0) (sch qM 53) = _
  rw [qs53, qw53]
  kernel_rfl
theorem qs55 : steps qM qV 55 = ⟨2709454215#32, 3089020144#32, 1676357718#32, 3731324864#32, 2716112617#32, 2969712370#32, 3186784545#32, 3570682146#32⟩ := by
  show step (steps qM qV 54) (kL.getD 54 0) (sch qM 54) = _
  rw [qs54, qw54]
  kernel_rfl
theorem qs56 : steps qM qV 56 = ⟨1928810895#32, 2709454215#32, 3089020144#32, 1676357718#32, 2957734502#32, 2716112617#32, 2969712370#32, 3186784545#32⟩ := by
  show step (steps qM qV 55) (kL.getD 55 0) (sch qM 55) = _
  rw [qs55, qw55]
  kernel_rfl
theorem qs57 : steps qM qV 57 = ⟨2106806801#32, 1928810895#32, 2709454215#32, 3089020144#32, 2743013070#32, 2957734502#32, 2716112617#32, 2969712370#32⟩ := by
  show step (steps qM qV 56) (kL.getD 56 0) (sch qM 56) = _
  rw [qs56, qw56]
  kernel_rfl
theorem qs58 : steps qM qV 58 = ⟨1413412153#32, 2106806801#32, 1928810895#32, 2709454215#32, 398383802#32, 2743013070#32, 2957734502#32, 2716112617#32⟩ := by
  show step (steps qM qV 57) (kL.getD 57 0) (sch qM 57) = _
  rw [qs57, qw57]
  kernel_rfl
theorem qs59 : steps qM qV 59 = ⟨2959032084#32, 1413412153#32, 2106806801#32, 1928810895#32, 3591696793#32, 398383802#32, 2743013070#32, 2957734502#32⟩ := by
  show step (steps qM qV 58) (kL.getD 58 0) (sch qM 58) = _
  rw [qs58, qw58]
  kernel_rfl
theorem qs60 : steps qM qV 60 = ⟨2194973935#32, 2959032084#32, 1413412153#32, 2106806801#32, 3646840688#32, 3591696793#32, 398383802#32, 2743013070#32⟩ := by
  show step (steps qM qV 59) (kL.getD 59 0) (sch qM 59) = _
  rw [qs59, qw59]
  kernel_rfl
theorem qs61 : steps qM qV 61 = ⟨4038274393#32, 2194973935#32, 2959032084#32, 1413412153#32, 1217218712#32, 3646840688#32, 3591696793#32, 398383802#32⟩ := by
  show step (steps qM qV 60) (kL.getD 60 0) (sch qM 60) = _
  rw [qs60, qw60]
  kernel_rfl
theorem qs62 : steps qM qV 62 = ⟨1307282705#32, 4038274393#32, 2194973935#32, 2959032084#32, 385690592#32, 1217218712#32, 3646840688#32, 3591696793#32⟩ := by
  show step (steps qM qV 61) (kL.getD 61 0) (sch qM 61) = _
  rw [qs61, qw61]
  kernel_rfl
theorem qs63 : steps qM qV 63 = ⟨227974368#32, 1307282705#32, 4038274393#32, 2194973935#32, 1732076908#32, 385690592#32, 1217218712#32, 3646840688#32⟩ := by
  show step (steps qM qV 62) (kL.getD 62 0) (sch qM 62) = _
  rw [qs62, qw62]
  kernel_rfl
theorem qs64 : steps qM qV 64 = ⟨3912056577#32, 227974368#32, 1307282705#32, 4038274393#32, 1614285541#32, 1732076908#32, 385690592#32, 1217218712#32⟩ := by
  show step (steps qM qV 63) (kL.getD 63 0) (sch qM 63) = _
  rw [qs63, qw63]
  kernel_rfl
theorem g32_run : run (pad g32L) 1 = ⟨1396122984#32, 3372108645#32, 2321186947#32, 2516787859#32, 2974178660#32, 37932536#32, 914425227#32, 2758677937#32⟩ := by
  rw [g32_pad]
  show add8 qV (steps qM qV 64) = _
  rw [qs64]
  rfl
theorem g32_sum : sum g32L = [83#8, 55#8, 37#8, 104#8, 200#8, 254#8, 75#8, 101#8, 138#8, 90#8, 128#8, 131#8, 150#8, 3#8, 34#8, 147#8, 177#8, 70#8, 93#8, 100#8, 2#8, 66#8, 205#8, 248#8, 54#8, 129#8, 5#8, 139#8, 164#8, 110#8, 21#8, 177#8] := by
  have e : sum g32L = out ⟨1396122984#32, 3372108645#32, 2321186947#32, 2516787859#32, 2974178660#32, 37932536#32, 914425227#32, 2758677937#32⟩ := by
    unfold sum
    rw [show (pad g32L).length / 64 = 1 by rw [g32_pad]; rfl, g32_run]
  rw [e]
  decide +kernel
def h55L : List (BitVec 8) := [1#8, 83#8, 55#8, 37#8, 104#8, 200#8, 254#8, 75#8, 101#8, 138#8, 90#8, 128#8, 131#8, 150#8, 3#8, 34#8, 147#8, 177#8, 70#8, 93#8, 100#8, 2#8, 66#8, 205#8, 248#8, 54#8, 129#8, 5#8, 139#8, 164#8, 110#8, 21#8, 177#8, 0#8, 0#8, 0#8, 0#8, 1#8, 0#8, 0#8, 0#8, 0#8, 0#8, 0#8, 0#8, 0#8, 0#8, 0#8, 0#8, 0#8, 0#8, 0#8, 0#8, 0#8, 0#8]
theorem h55_pad : pad h55L = [1#8, 83#8, 55#8, 37#8, 104#8, 200#8, 254#8, 75#8, 101#8, 138#8, 90#8, 128#8, 131#8, 150#8, 3#8, 34#8, 147#8, 177#8, 70#8, 93#8, 100#8, 2#8, 66#8, 205#8, 248#8, 54#8, 129#8, 5#8, 139#8, 164#8, 110#8, 21#8, 177#8, 0#8, 0#8, 0#8, 0#8, 1#8, 0#8, 0#8, 0#8, 0#8, 0#8, 0#8, 0#8, 0#8, 0#8, 0#8, 0#8, 0#8, 0#8, 0#8, 0#8, 0#8, 0#8, 128#8, 0#8, 0#8, 0#8, 0#8, 0#8, 0#8, 1#8, 184#8] := by decide +kernel
def rM : Nat → BitVec 32 := blk [1#8, 83#8, 55#8, 37#8, 104#8, 200#8, 254#8, 75#8, 101#8, 138#8, 90#8, 128#8, 131#8, 150#8, 3#8, 34#8, 147#8, 177#8, 70#8, 93#8, 100#8, 2#8, 66#8, 205#8, 248#8, 54#8, 129#8, 5#8, 139#8, 164#8, 110#8, 21#8, 177#8, 0#8, 0#8, 0#8, 0#8, 1#8, 0#8, 0#8, 0#8, 0#8, 0#8, 0#8, 0#8, 0#8, 0#8, 0#8, 0#8, 0#8, 0#8, 0#8, 0#8, 0#8, 0#8, 128#8, 0#8, 0#8, 0#8, 0#8, 0#8, 0#8, 1#8, 184#8] 0
theorem rw0 : sch rM 0 = 22230821#32 := by rw [sch_lo _ (by omega)]; decide +kernel
theorem rw1 : sch rM 1 = 1758002763#32 := by rw [sch_lo _ (by omega)]; decide +kernel
theorem rw2 : sch rM 2 = 1703565952#32 := by rw [sch_lo _ (by omega)]; decide +kernel
theorem rw3 : sch rM 3 = 2207646498#32 := by rw [sch_lo _ (by omega)]; decide +kernel
theorem rw4 : sch rM 4 = 2477868637#32 := by rw [sch_lo _ (by omega)]; decide +kernel
theorem rw5 : sch rM 5 = 1677869773#32 := by rw [sch_lo _ (by omega)]; decide +kernel
theorem rw6 : sch rM 6 = 4164321541#32 := by rw [sch_lo _ (by omega)]; decide +kernel
theorem rw7 : sch rM 7 = 2342809109#32 := by rw [sch_lo _ (by omega)]; decide +kernel
theorem rw8 : sch rM 8 = 2969567232#32 := by rw [sch_lo _ (by omega)]; decide +kernel
theorem rw9 : sch rM 9 = 65536#32 := by rw [sch_lo _ (by omega)]; decide +kernel
theorem rw10 : sch rM 10 = 0#32 := by rw [sch_lo _ (by omega)]; decide +kernel
theorem rw11 : sch rM 11 = 0#32 := by rw [sch_lo _ (by omega)]; decide +kernel
theorem rw12 : sch rM 12 = 0#32 := by rw [sch_lo _ (by omega)]; decide +kernel
theorem rw13 : sch rM 13 = 128#32 := by rw [sch_lo _ (by omega)]; decide +kernel
theorem rw14 : sch rM 14 = 0#32 := by rw [sch_lo _ (by omega)]; decide +kernel
theorem rw15 : sch rM 15 = 440#32 := by rw [sch_lo _ (by omega)]; decide +kernel
theorem rw16 : sch rM 16 = 2779679532#32 := by rw [sch_hi _ (by omega), show 16 - 2 = 14 from rfl, show 16 - 7 = 9 from rfl, show 16 - 15 = 1 from rfl, show 16 - 16 = 0 from rfl, rw14, rw9, rw1, rw0]; decide +kernel
theorem rw17 : sch rM 17 = 76432594#32 := by rw [sch_hi _ (by omega), show 17 - 2 = 15 from rfl, show 17 - 7 = 10 from rfl, show 17 - 15 = 2 from rfl, show 17 - 16 = 1 from rfl, rw15, rw10, rw2, rw1]; decide +kernel
theorem rw18 : sch rM 18 = 3491910855#32 := by rw [sch_hi _ (by omega), show 18 - 2 = 16 from rfl, show 18 - 7 = 11 from rfl, show 18 - 15 = 3 from rfl, show 18 - 16 = 2 from rfl, rw16, rw11, rw3, rw2]; decide +kernel
theorem rw19 : sch rM 19 = 1733202708#32 := by rw [sch_hi _ (by omega), show 19 - 2 = 17 from rfl, show 19 - 7 = 12 from rfl, show 19 - 15 = 4 from rfl, show 19 - 16 = 3 from rfl, rw17, rw12, rw4, rw3]; decide +kernel
theorem rw20 : sch rM 20 = 4219172665#32 := by rw [sch_hi _ (by omega), show 20 - 2 = 18 from rfl, show 20 - 7 = 13 from rfl, show 20 - 15 = 5 from rfl, show 20 - 16 = 4 from rfl, rw18, rw13, rw5, rw4]; decide +kernel
theorem rw21 : sch rM 21 = 3031134950#32 := by rw [sch_hi _ (by omega), show 21 - 2 = 19 from rfl, show 21 - 7 = 14 from rfl, show 21 - 15 = 6 from rfl, show 21 - 16 = 5 from rfl, rw19, rw14, rw6, rw5]; decide +kernel
theorem rw22 : sch rM 22 = 4016195267#32 := by rw [sch_hi _ (by omega), show 22 - 2 = 20 from rfl, show 22 - 7 = 15 from rfl, show 22 - 15 = 7 from rfl, show 22 - 16 = 6 from rfl, rw20, rw15, rw7, rw6]; decide +kernel
theorem rw23 : sch rM 23 = 530041757#32 := by rw [sch_hi _ (by omega), show 23 - 2 = 21 from rfl, show 23 - 7 = 16 from rfl, show 23 - 15 = 8 from rfl, show 23 - 16 = 7 from rfl, rw21, rw16, rw8, rw7]; decide +kernel
theorem rw24 : sch rM 24 = 1628486046#32 := by rw [sch_hi _ (by omega), show 24 - 2 = 22 from rfl, show 24 - 7 = 17 from rfl, show 24 - 15 = 9 from rfl, show 24 - 16 = 8 from rfl, rw22, rw17, rw9, rw8]; decide +kernel
theorem rw25 : sch rM 25 = 3973979794#32 := by rw [sch_hi _ (by omega), show 25 - 2 = 23 from rfl, show 25 - 7 = 18 from rfl, show 25 - 15 = 10 from rfl, show 25 - 16 = 9 from rfl, rw23, rw18, rw10, rw9]; decide +kernel
theorem rw26 : sch rM 26 = 3006483352#32 := by rw [sch_hi _ (by omega), show 26 - 2 = 24 from rfl, show 26 - 7 = 19 from rfl, show 26 - 15 = 11 from rfl, show 26 - 16 = 10 from rfl, rw24, rw19, rw11, rw10]; decide +kernel
theorem rw27 : sch rM 27 = 3357250476#32 := by rw [sch_hi _ (by omega), show 27 - 2 = 25 from rfl, show 27 - 7 = 20 from rfl, show 27 - 15 = 12 from rfl, show 27 - 16 = 11 from rfl, rw25, rw20, rw12, rw11]; decide +kernel
theorem rw28 : sch rM 28 = 2170484260#32 := by rw [sch_hi _ (by omega), show 28 - 2 = 26 from rfl, show 28 - 7 = 21 from rfl, show 28 - 15 = 13 from rfl, show 28 - 16 = 12 from rfl, rw26, rw21, rw13, rw12]; decide +kernel
theorem rw29 : sch rM 29 = 2868134701#32 := by rw [sch_hi _ (by omega), show 29 - 2 = 27 from rfl, show 29 - 7 = 22 from rfl, show 29 - 15 = 14 from rfl, show 29 - 16 = 13 from rfl, rw27, rw22, rw14, rw13]; decide +kernel
theorem rw30 : sch rM 30 = 905728778#32 := by rw [sch_hi _ (by omega), show 30 - 2 = 28 from rfl, show 30 - 7 = 23 from rfl, show 30 - 15 = 15 from rfl, show 30 - 16 = 14 from rfl, rw28, rw23, rw15, rw14]; decide +kernel
theorem rw31 : sch rM 31 = 4196416930#32 := by rw [sch_hi _ (by omega), show 31 - 2 = 29 from rfl, show 31 - 7 = 24 from rfl, show 31 - 15 = 16 from rfl, show 31 - 16 = 15 from rfl, rw29, rw24, rw16, rw15]; decide +kernel
theorem rw32 : sch rM 32 = 1814176323#32 := by rw [sch_hi _ (by omega), show 32 - 2 = 30 from rfl, show 32 - 7 = 25 from rfl, show 32 - 15 = 17 from rfl, show 32 - 16 = 16 from rfl, rw30, rw25, rw17, rw16]; decide +kernel
theorem rw33 : sch rM 33 = 3518182654#32 := by rw [sch_hi _ (by omega), show 33 - 2 = 31 from rfl, show 33 - 7 = 26 from rfl, show 33 - 15 = 18 from rfl, show 33 - 16 = 17 from rfl, rw31, rw26, rw18, rw17]; decide +kernel
theorem rw34 : sch rM 34 = 1855132199#32 := by rw [sch_hi _ (by omega), show 34 - 2 = 32 from rfl, show 34 - 7 = 27 from rfl, show 34 - 15 = 19 from rfl, show 34 - 16 = 18 from rfl, rw32, rw27, rw19, rw18]; decide +kernel
theorem rw35 : sch rM 35 = 2530889265#32 := by rw [sch_hi _ (by omega), show 35 - 2 = 33 from rfl, show 35 - 7 = 28 from rfl, show 35 - 15 = 20 from rfl, show 35 - 16 = 19 from rfl, rw33, rw28, rw20, rw19]; decide +kernel
theorem rw36 : sch rM 36 = 2567065176#32 := by rw [sch_hi _ (by omega), show 36 - 2 = 34 from rfl, show 36 - 7 = 29 from rfl, show 36 - 15 = 21 from rfl, show 36 - 16 = 20 from rfl, rw34, rw29, rw21, rw20]; decide +kernel
theorem rw37 : sch rM 37 = 1696959650#32 := by rw [sch_hi _ (by omega), show 37 - 2 = 35 from rfl, show 37 - 7 = 30 from rfl, show 37 - 15 = 22 from rfl, show 37 - 16 = 21 from rfl, rw35, rw30, rw22, rw21]; decide +kernel
theorem rw38 : sch rM 38 = 594424984#32 := by rw [sch_hi _ (by omega), show 38 - 2 = 36 from rfl, show 38 - 7 = 31 from rfl, show 38 - 15 = 23 from rfl, show 38 - 16 = 22 from rfl, rw36, rw31, rw23, rw22]; decide +kernel
theorem rw39 : sch rM 39 = 572379961#32 := by rw [sch_hi _ (by omega), show 39 - 2 = 37 from rfl, show 39 - 7 = 32 from rfl, show 39 - 15 = 24 from rfl, show 39 - 16 = 23 from rfl, rw37, rw32, rw24, rw23]; decide +kernel
theorem rw40 : sch rM 40 = 3481436619#32 := by rw [sch_hi _ (by omega), show 40 - 2 = 38 from rfl, show 40 - 7 = 33 from rfl, show 40 - 15 = 25 from rfl, show 40 - 16 = 24 from rfl, rw38, rw33, rw25, rw24]; decide +kernel
theorem rw41 : sch rM 41 = 2773124634#32 := by rw [sch_hi _ (by omega), show 41 - 2 = 39 from rfl, show 41 - 7 = 34 from rfl, show 41 - 15 = 26 from rfl, show 41 - 16 = 25 from rfl, rw39, rw34, rw26, rw25]; decide +kernel
theorem rw42 : sch rM 42 = 4285894574#32 := by rw [sch_hi _ (by omega), show 42 - 2 = 40 from rfl, show 42 - 7 = 35 from rfl, show 42 - 15 = 27 from rfl, show 42 - 16 = 26 from rfl, rw40, rw35, rw27, rw26]; decide +kernel
theorem rw43 : sch rM 43 = 1504016944#32 := by rw [sch_hi _ (by omega), show 43 - 2 = 41 from rfl, show 43 - 7 = 36 from rfl, show 43 - 15 = 28 from rfl, show 43 - 16 = 27 from rfl, rw41, rw36, rw28, rw27]; decide +kernel
theorem rw44 : sch rM 44 = 3143764571#32 := by rw [sch_hi _ (by omega), show 44 - 2 = 42 from rfl, show 44 - 7 = 37 from rfl, show 44 - 15 = 29 from rfl, show 44 - 16 = 28 from rfl, rw42, rw37, rw29, rw28]; decide +kernel
theorem rw45 : sch rM 45 = 3871458869#32 := by rw [sch_hi _ (by omega), show 45 - 2 = 43 from rfl, show 45 - 7 = 38 from rfl, show 45 - 15 = 30 from rfl, show 45 - 16 = 29 from rfl, rw43, rw38, rw30, rw29]; decide +kernel
theorem rw46 : sch rM 46 = 4063990249#32 := by rw [sch_hi _ (by omega), show 46 - 2 = 44 from rfl, show 46 - 7 = 39 from rfl, show 46 - 15 = 31 from rfl, show 46 - 16 = 30 from rfl, rw44, rw39, rw31, rw30]; decide +kernel
theorem rw47 : sch rM 47 = 2840959546#32 := by rw [sch_hi _ (by omega), show 47 - 2 = 45 from rfl, show 47 - 7 = 40 from rfl, show 47 - 15 = 32 from rfl, show 47 - 16 = 31 from rfl, rw45, rw40, rw32, rw31]; decide +kernel
theorem rw48 : sch rM 48 = 4144801461#32 := by rw [sch_hi _ (by omega), show 48 - 2 = 46 from rfl, show 48 - 7 = 41 from rfl, show 48 - 15 = 33 from rfl, show 48 - 16 = 32 from rfl, rw46, rw41, rw33, rw32]; decide +kernel
theorem rw49 : sch rM 49 = 3609180502#32 := by rw [sch_hi _ (by omega), show 49 - 2 = 47 from rfl, show 49 - 7 = 42 from rfl, show 49 - 15 = 34 from rfl, show 49 - 16 = 33 from rfl, rw47, rw42, rw34, rw33]; decide +kernel
theorem rw50 : sch rM 50 = 1919200145#32 := by rw [sch_hi _ (by omega), show 50 - 2 = 48 from rfl, show 50 - 7 = 43 from rfl, show 50 - 15 = 35 from rfl, show 50 - 16 = 34 from rfl, rw48, rw43, rw35, rw34]; decide +kernel
theorem rw51 : sch rM 51 = 2943695397#32 := by rw [sch_hi _ (by omega), show 51 - 2 = 49 from rfl, show 51 - 7 = 44 from rfl, show 51 - 15 = 36 from rfl, show 51 - 16 = 35 from rfl, rw49, rw44, rw36, rw35]; decide +kernel
theorem rw52 : sch rM 52 = 1806730917#32 := by rw [sch_hi _ (by omega), show 52 - 2 = 50 from rfl, show 52 - 7 = 45 from rfl, show 52 - 15 = 37 from rfl, show 52 - 16 = 36 from rfl, rw50, rw45, rw37, rw36]; decide +kernel
theorem rw53 : sch rM 53 = 1256976326#32 := by rw [sch_hi _ (by omega), show 53 - 2 = 51 from rfl, show 53 - 7 = 46 from rfl, show 53 - 15 = 38 from rfl, show 53 - 16 = 37 from rfl, rw51, rw46, rw38, rw37]; decide +kernel
theorem rw54 : sch rM 54 = 589991079#32 := by rw [sch_hi _ (by omega), show 54 - 2 = 52 from rfl, show 54 - 7 = 47 from rfl, show 54 - 15 = 39 from rfl, show 54 - 16 = 38 from rfl, rw52, rw47, rw39, rw38]; decide +kernel
theorem rw55 : sch rM 55 = 3511777179#32 := by rw [sch_hi _ (by omega), show 55 - 2 = 53 from rfl, show 55 - 7 = 48 from rfl, show 55 - 15 = 40 from rfl, show 55 - 16 = 39 from rfl, rw53, rw48, rw40, rw39]; decide +kernel
theorem rw56 : sch rM 56 = 1054304017#32 := by rw [sch_hi _ (by omega), show 56 - 2 = 54 from rfl, show 56 - 7 = 49 from rfl, show 56 - 15 = 41 from rfl, show 56 - 16 = 40 from rfl, rw54, rw49, rw41, rw40]; decide +kernel
theorem rw57 : sch rM 57 = 3468025281#32 := by rw [sch_hi _ (by omega), show 57 - 2 = 55 from rfl, show 57 - 7 = 50 from rfl, show 57 - 15 = 42 from rfl, show 57 - 16 = 41 from rfl, rw55, rw50, rw42, rw41]; decide +kernel
theorem rw58 : sch rM 58 = 1130089238#32 := by rw [sch_hi _ (by omega), show 58 - 2 = 56 from rfl, show 58 - 7 = 51 from rfl, show 58 - 15 = 43 from rfl, show 58 - 16 = 42 from rfl, rw56, rw51, rw43, rw42]; decide +kernel
theorem rw59 : sch rM 59 = 1028513879#32 := by rw [sch_hi _ (by omega), show 59 - 2 = 57 from rfl, show 59 - 7 = 52 from rfl, show 59 - 15 = 44 from rfl, show 59 - 16 = 43 from rfl, rw57, rw52, rw44, rw43]; decide +kernel
theorem rw60 : sch rM 60 = 2850028623#32 := by rw [sch_hi _ (by omega), show 60 - 2 = 58 from rfl, show 60 - 7 = 53 from rfl, show 60 - 15 = 45 from rfl, show 60 - 16 = 44 from rfl, rw58, rw53, rw45, rw44]; decide +kernel
theorem rw61 : sch rM 61 = 2146694883#32 := by rw [sch_hi _ (by omega), show 61 - 2 = 59 from rfl, show 61 - 7 = 54 from rfl, show 61 - 15 = 46 from rfl, show 61 - 16 = 45 from rfl, rw59, rw54, rw46, rw45]; decide +kernel
theorem rw62 : sch rM 62 = 3423080917#32 := by rw [sch_hi _ (by omega), show 62 - 2 = 60 from rfl, show 62 - 7 = 55 from rfl, show 62 - 15 = 47 from rfl, show 62 - 16 = 46 from rfl, rw60, rw55, rw47, rw46]; decide +kernel
theorem rw63 : sch rM 63 = 3397525149#32 := by rw [sch_hi _ (by omega), show 63 - 2 = 61 from rfl, show 63 - 7 = 56 from rfl, show 63 - 15 = 48 from rfl, show 63 - 16 = 47 from rfl, rw61, rw56, rw48, rw47]; decide +kernel
def rV : V8 := ⟨1779033703#32, 3144134277#32, 1013904242#32, 2773480762#32, 1359893119#32, 2600822924#32, 528734635#32, 1541459225#32⟩
theorem rs0 : steps rM rV 0 = ⟨1779033703#32, 3144134277#32, 1013904242#32, 2773480762#32, 1359893119#32, 2600822924#32, 528734635#32, 1541459225#32⟩ := rfl
theorem rs1 : steps rM rV 1 = ⟨4250648434#32, 1779033703#32, 3144134277#32, 1013904242#32, 2585467335#32, 1359893119#32, 2600822924#32, 528734635#32⟩ := by
  show step (steps rM rV 0) (kL.getD 0 0) (sch rM 0) = _
  rw [rs0, rw0]
  kernel_rfl
theorem rs2 : steps rM rV 2 = ⟨1530058490#32, 4250648434#32, 1779033703#32, 3144134277#32, 1914260753#32, 2585467335#32, 1359893119#32, 2600822924#32⟩ := by
  show step (steps rM rV 1) (kL.getD 1 0) (sch rM 1) = _
  rw [rs1, rw1]
  kernel_rfl
theorem rs3 : steps rM rV 3 = ⟨437388452#32, 1530058490#32, 4250648434#32, 1779033703#32, 1880635251#32, 1914260753#32, 2585467335#32, 1359893119#32⟩ := by
  show step (steps rM rV 2) (kL.getD 2 0) (sch rM 2) = _
  rw [rs2, rw2]
  kernel_rfl
theorem rs4 : steps rM rV 4 = ⟨2935255553#32, 437388452#32, 1530058490#32, 4250648434#32, 1379205029#32, 1880635251#32, 1914260753#32, 2585467335#32⟩ := by
  show step (steps rM rV 3) (kL.getD 3 0) (sch rM 3) = _
  rw [rs3, rw3]
  kernel_rfl
theorem rs5 : steps rM rV 5 = ⟨2542036400#32, 2935255553#32, 437388452#32, 1530058490#32, 1345675498#32, 1379205029#32, 1880635251#32, 1914260753#32⟩ := by
  show step (steps rM rV 4) (kL.getD 4 0) (sch rM 4) = _
  rw [rs4, rw4]
  kernel_rfl
theorem rs6 : steps rM rV 6 = ⟨126585656#32, 2542036400#32, 2935255553#32, 437388452#32, 2855704193#32, 1345675498#32, 1379205029#32, 1880635251#32⟩ := by
  show step (steps rM rV 5) (kL.getD 5 0) (sch rM 5) = _
  rw [rs5, rw5]
  kernel_rfl
theorem rs7 : steps rM rV 7 = ⟨371991257#32, 126585656#32, 2542036400#32, 2935255553#32, 850101697#32, 2855704193#32, 1345675498#32, 1379205029#32⟩ := by
  show step (steps rM rV 6) (kL.getD 6 0) (sch rM 6) = _
  rw [rs6, rw6]
  kernel_rfl
theorem rs8 : steps rM rV 8 = ⟨3484405375#32, 371991257#32, 126585656#32, 2542036400#32, 2203008825#32, 850101697#32, 2855704193#32, 1345675498#32⟩ := by
  show step (steps rM rV 7) (kL.getD 7 0) (sch rM 7) = _
  rw [rs7, rw7]
  kernel_rfl
theorem rs9 : steps rM rV 9 = ⟨4042741557#32, 3484405375#32, 371991257#32, 126585656#32, 1100988557#32, 2203008825#32, 850101697#32, 2855704193#32⟩ := by
  show step (steps rM rV 8) (kL.getD 8 0) (sch rM 8) = _
  rw [rs8, rw8]
  kernel_rfl
theorem rs10 : steps rM rV 10 = ⟨3400912214#32, 4042741557#32, 3484405375#32, 371991257#32, 3804466269#32, 1100988557#32, 2203008825#32, 850101697#32⟩ := by
  show step (steps rM rV 9) (kL.getD 9 0) (sch rM 9) = _
  rw [rs9, rw9]
  kernel_rfl
theorem rs11 : steps rM rV 11 = ⟨272925861#32, 3400912214#32, 4042741557#32, 3484405375#32, 1284135478#32, 3804466269#32, 1100988557#32, 2203008825#32⟩ := by
  show step (steps rM rV 10) (kL.getD 10 0) (sch rM 10) = _
  rw [rs10, rw10]
  kernel_rfl
theorem rs12 : steps rM rV 12 = ⟨954918175#32, 272925861#32, 3400912214#32, 4042741557#32, 3296311069#32, 1284135478#32, 3804466269#32, 1100988557#32⟩ := by
  show step (steps rM rV 11) (kL.getD 11 0) (sch rM 11) = _
  rw [rs11, rw11]
  kernel_rfl
theorem rs13 : steps rM rV 13 = ⟨697755495#32, 954918175#32, 272925861#32, 3400912214#32, 3025303186#32, 3296311069#32, 1284135478#32, 3804466269#32⟩ := by
  show step (steps rM rV 12) (kL.getD 12 0) (sch rM 12) = _
  rw [rs12, rw12]
  kernel_rfl
theorem rs14 : steps rM rV 14 = ⟨3317651148#32, 697755495#32, 954918175#32, 272925861#32, 2901202227#32, 3025303186#32, 3296311069#32, 1284135478#32⟩ := by
  show step (steps rM rV 13) (kL.getD 13 0) (sch rM 13) = _
  rw [rs13, rw13]
  kernel_rfl
theorem rs15 : steps rM rV 15 = ⟨2406891713#32, 3317651148#32, 697755495#32, 954918175#32, 4222161592#32, 2901202227#32, 3025303186#32, 3296311069#32⟩ := by
  show step (steps rM rV 14) (kL.getD 14 0) (sch rM 14) = _
  rw [rs14, rw14]
  kernel_rfl
theorem rs16 : steps rM rV 16 = ⟨3725713428#32, 2406891713#32, 3317651148#32, 697755495#32, 3430125743#32, 4222161592#32, 2901202227#32, 3025303186#32⟩ := by
  show step (steps rM rV 15) (kL.getD 15 0) (sch rM 15) = _
  rw [rs15, rw15]
  kernel_rfl
theorem rs17 : steps rM rV 17 = ⟨4196660675#32, 3725713428#32, 2406891713#32, 3317651148#32, 3823157364#32, 3430125743#32, 4222161592#32, 2901202227#32⟩ := by
  show step (steps rM rV 16) (kL.getD 16 0) (sch rM 16) = _
  rw [rs16, rw16]
  kernel_rfl
theorem rs18 : steps rM rV 18 = ⟨1686814183#32, 4196660675#32, 3725713428#32, 2406891713#32, 1825968235#32, 3823157364#32, 3430125743#32, 4222161592#32⟩ := by
  show step (steps rM rV 17) (kL.getD 17 0) (sch rM 17) = _
  rw [rs17, rw17]
  kernel_rfl
theorem rs19 : steps rM rV 19 = ⟨2738325987#32, 1686814183#32, 4196660675#32, 3725713428#32, 398179871#32, 1825968235#32, 3823157364#32, 3430125743#32⟩ := by
  show step (steps rM rV 18) (kL.getD 18 0) (sch rM 18) = _
  rw [rs18, rw18]
  kernel_rfl
theorem rs20 : steps rM rV 20 = ⟨4213137193#32, 2738325987#32, 1686814183#32, 4196660675#32, 2098596882#32, 398179871#32, 1825968235#32, 3823157364#32⟩ := by
  show step (steps rM rV 19) (kL.getD 19 0) (sch rM 19) = _
  rw [rs19, rw19]
  kernel_rfl
theorem rs21 : steps rM rV 21 = ⟨1105836837#32, 4213137193#32, 2738325987#32, 1686814183#32, 1576626729#32, 2098596882#32, 398179871#32, 1825968235#32⟩ := by
  show step (steps rM rV 20) (kL.getD 20 0) (sch rM 20) = _
  rw [rs20, rw20]
  kernel_rfl
theorem rs22 : steps rM rV 22 = ⟨4209934816#32, 1105836837#32, 4213137193#32, 2738325987#32, 1283239971#32, 1576626729#32, 2098596882#32, 398179871#32⟩ := by
  show step (steps rM rV 21) (kL.getD 21 0) (sch rM 21) = _
  rw [rs21, rw21]
  kernel_rfl
theorem rs23 : steps rM rV 23 = ⟨536139751#32, 4209934816#32, 1105836837#32, 4213137193#32, 998298050#32, 1283239971#32, 1576626729#32, 2098596882#32⟩ := by
  show step (steps rM rV 22) (kL.getD 22 0) (sch rM 22) = _
  rw [rs22, rw22]
  kernel_rfl
theorem rs24 : steps rM rV 24 = ⟨1483314937#32, 536139751#32, 4209934816#32, 1105836837#32, 1275202589#32, 998298050#32, 1283239971#32, 1576626729#32⟩ := by
  show step (steps rM rV 23) (kL.getD 23 0) (sch rM 23) = _
  rw [rs23, rw23]
  kernel_rfl
theorem rs25 : steps rM rV 25 = ⟨4191979398#32, 1483314937#32, 536139751#32, 4209934816#32, 2572052279#32, 1275202589#32, 998298050#32, 1283239971#32⟩ := by
  show step (steps rM rV 24) (kL.getD 24 0) (sch rM 24) = _
  rw [rs24, rw24]
  kernel_rfl
theorem rs26 : steps rM rV 26 = ⟨4128260700#32, 4191979398#32, 1483314937#32, 536139751#32, 2795714419#32, 2572052279#32, 1275202589#32, 998298050#32⟩ := by
  show step (steps rM rV 25) (kL.getD 25 0) (sch rM 25) = _
  rw [rs25, rw25]
  kernel_rfl
theorem rs27 : steps rM rV 27 = ⟨1056092274#32, 4128260700#32, 4191979398#32, 1483314937#32, 4163120560#32, 2795714419#32, 2572052279#32, 1275202589#32⟩ := by
  show step (steps rM rV 26) (kL.getD 26 0) (sch rM 26) = _
  rw [rs26, rw26]
  kernel_rfl
theorem rs28 : steps rM rV 28 = ⟨2726815966#32, 1056092274#32, 4128260700#32, 4191979398#32, 892627471#32, 4163120560#32, 2795714419#32, 2572052279#32⟩ := by
  show step (steps rM rV 27) (kL.getD 27 0) (sch rM 27) = _
  rw [rs27, rw27]
  kernel_rfl
theorem rs29 : steps rM rV 29 = ⟨600214621#32, 2726815966#32, 1056092274#32, 4128260700#32, 1964547843#32, 892627471#32, 4163120560#32, 2795714419#32⟩ := by
  show step (steps rM rV 28) (kL.getD 28 0) (sch rM 28) = _
  rw [rs28, rw28]
  kernel_rfl
theorem rs30 : steps rM rV 30 = ⟨2572740985#32, 600214621#32, 2726815966#32, 1056092274#32, 1014544843#32, 1964547843#32, 892627471#32, 4163120560#32⟩ := by
  show step (steps rM rV 29) (kL.getD 29 0) (sch rM 29) = _
  rw [rs29, rw29]
  kernel_rfl
theorem rs31 : steps rM rV 31 = ⟨2245543641#32, 2572740985#32, 600214621#32, 2726815966#32, 3536123890#32, 1014544843#32, 1964547843#32, 892627471#32⟩ := by
  show step (steps rM rV 30) (kL.getD 30 0) (sch rM 30) = _
  rw [rs30, rw30]
  kernel_rfl
theorem rs32 : steps rM rV 32 = ⟨2293981887#32, 2245543641#32, 2572740985#32, 600214621#32, 1925785057#32, 3536123890#32, 1014544843#32, 1964547843#32⟩ := by
  show step (steps rM rV 31) (kL.getD 31 0) (sch rM 31) = _
  rw [rs31, rw31]
  kernel_rfl
theorem rs33 : steps rM rV 33 = ⟨1770708238#32, 2293981887#32, 2245543641#32, 2572740985#32, 3911230236#32, 1925785057#32, 3536123890#32, 1014544843#32⟩ := by
  show step (steps rM rV 32) (kL.getD 32 0) (sch rM 32) = _
  rw [rs32, rw32]
  kernel_rfl
theorem rs34 : steps rM rV 34 = ⟨309573665#32, 1770708238#32, 2293981887#32, 2245543641#32, 3368851528#32, 3911230236#32, 1925785057#32, 3536123890#32⟩ := by
  show step (steps rM rV 33) (kL.getD 33 0) (sch rM 33) = _
  rw [rs33, rw33]
  kernel_rfl
theorem rs35 : steps rM rV 35 = ⟨690823007#32, 309573665#32, 1770708238#32, 2293981887#32, 1523872813#32, 3368851528#32, 3911230236#32, 1925785057#32⟩ := by
  show step (steps rM rV 34) (kL.getD 34 0) (sch rM 34) = _
  rw [rs34, rw34]
  kernel_rfl
theorem rs36 : steps rM rV 36 = ⟨1337278810#32, 690823007#32, 309573665#32, 1770708238#32, 712348911#32, 1523872813#32, 3368851528#32, 3911230236#32⟩ := by
  show step (steps rM rV 35) (kL.getD 35 0) (sch rM 35) = _
  rw [rs35, rw35]
  kernel_rfl
theorem rs37 : steps rM rV 37 = ⟨620744326#32, 1337278810#32, 690823007#32, 309573665#32, 924536183#32, 712348911#32, 1523872813#32, 3368851528#32⟩ := by
  show step (steps rM rV 36) (kL.getD 36 0) (sch rM 36) = _
  rw [rs36, rw36]
  kernel_rfl
theorem rs38 : steps rM rV 38 = ⟨1052751365#32, 620744326#32, 1337278810#32, 690823007#32, 557928956#32, 924536183#32, 712348911#32, 1523872813#32⟩ := by
  show step (steps rM rV 37) (kL.getD 37 0) (sch rM 37) = _
  rw [rs37, rw37]
  kernel_rfl
theorem rs39 : steps rM rV 39 = ⟨3405962611#32, 1052751365#32, 620744326#32, 1337278810#32, 3289524806#32, 557928956#32, 924536183#32, 712348911#32⟩ := by
  show step (steps rM rV 38) (kL.getD 38 0) (sch rM 38) = _
  rw [rs38, rw38]
  kernel_rfl
theorem rs40 : steps rM rV 40 = ⟨2916598301#32, 3405962611#32, 1052751365#32, 620744326#32, 3164734730#32, 3289524806#32, 557928956#32, 924536183#32⟩ := by
  show step (steps rM rV 39) (kL.getD 39 0) (sch rM 39) = _
  rw [rs39, rw39]
  kernel_rfl
theorem rs41 : steps rM rV 41 = ⟨3715195014#32, 2916598301#32, 3405962611#32, 1052751365#32, 776499305#32, 3164734730#32, 3289524806#32, 557928956#32⟩ := by
  show step (steps rM rV 40) (kL.getD 40 0) (sch rM 40) = _
  rw [rs40, rw40]
  kernel_rfl
theorem rs42 : steps rM rV 42 = ⟨748260797#32, 3715195014#32, 2916598301#32, 3405962611#32, 656202444#32, 776499305#32, 3164734730#32, 3289524806#32⟩ := by
  show step (steps rM rV 41) (kL.getD 41 0) (sch rM 41) = _
  rw [rs41, rw41]
  kernel_rfl
theorem rs43 : steps rM rV 43 = ⟨448742719#32, 748260797#32, 3715195014#32, 2916598301#32, 4143345412#32, 656202444#32, 776499305#32, 3164734730#32⟩ := by
  show step (steps rM rV 42) (kL.getD 42 0) (sch rM 42) = _
  rw [rs42, rw42]
  kernel_rfl
theorem rs44 : steps rM rV 44 = ⟨3275747058#32, 448742719#32, 748260797#32, 3715195014#32, 1109029489#32, 4143345412#32, 656202444#32, 776499305#32⟩ := by
  show step (steps rM rV 43) (kL.getD 43 0) (sch rM 43) = _
  rw [rs43, rw43]
  kernel_rfl
theorem rs45 : steps rM rV 45 = ⟨3960428189#32, 3275747058#32, 448742719#32, 748260797#32, 2245967893#32, 1109029489#32, 4143345412#32, 656202444#32⟩ := by
  show step (steps rM rV 44) (kL.getD 44 0) (sch rM 44) = _
  rw [rs44, rw44]
  kernel_rfl
theorem rs46 : steps rM rV 46 = ⟨3480217980#32, 3960428189#32, 3275747058#32, 448742719#32, 1058237965#32, 2245967893#32, 1109029489#32, 4143345412#32⟩ := by
  show step (steps rM rV 45) (kL.getD 45 0) (sch rM 45) = _
  rw [rs45, rw45]
  kernel_rfl
theorem rs47 : steps rM rV 47 = ⟨906989898#32, 3480217980#32, 3960428189#32, 3275747058#32, 3120985456#32, 1058237965#32, 2245967893#32, 1109029489#32⟩ := by
  show step (steps rM rV 46) (kL.getD 46 0) (sch rM 46) = _
  rw [rs46, rw46]
  kernel_rfl
theorem rs48 : steps rM rV 48 = ⟨3542270136#32, 906989898#32, 3480217980#32, 3960428189#32, 1857773912#32, 3120985456#32, 1058237965#32, 2245967893#32⟩ := by
  show step (steps rM rV 47) (kL.getD 47 0) (sch rM 47) = _
  rw [rs47, rw47]
  kernel_rfl
theorem rs49 : steps rM rV 49 = ⟨2044115455#32, 3542270136#32, 906989898#32, 3480217980#32, 3567879344#32, 1857773912#32, 3120985456#32, 1058237965#32⟩ := by
  show step (steps rM rV 48) (kL.getD 48 0) (sch rM 48) = _
  rw [rs48, rw48]
  kernel_rfl
theorem rs50 : steps rM rV 50 = ⟨1662295850#32, 2044115455#32, 3542270136#32, 906989898#32, 1947490687#32, 3567879344#32, 1857773912#32, 3120985456#32⟩ := by
  show step (steps rM rV 49) (kL.getD 49 0) (sch rM 49) = _
  rw [rs49, rw49]
  kernel_rfl
theorem rs51 : steps rM rV 51 = ⟨829576557#32, 1662295850#32, 2044115455#32, 3542270136#32, 3229660699#32, 1947490687#32, 3567879344#32, 1857773912#32⟩ := by
  show step (steps rM rV 50) (kL.getD 50 0) (sch rM 50) = _
  rw [rs50, rw50]
  kernel_rfl
theorem rs52 : steps rM rV 52 = ⟨853725078#32, 829576557#32, 1662295850#32, 2044115455#32, 1716406483#32, 3229660699#32, 1947490687#32, 3567879344#32⟩ := by
  show step (steps rM rV 51) (kL.getD 51 0) (sch rM 51) = _
  rw [rs51, rw51]
  kernel_rfl
theorem rs53 : steps rM rV 53 = ⟨3909230086#32, 853725078#32, 829576557#32, 1662295850#32, 3022945439#32, 1716406483#32, 3229660699#32, 1947490687#32⟩ := by
  show step (steps rM rV 52) (kL.getD 52 0) (sch rM 52) = _
  rw [rs52, rw52]
  kernel_rfl
theorem rs54 : steps rM rV 54 = ⟨3757204804#32, 3909230086#32, 853725078#32, 829576557#32, 3482636595#32, 3022945439#32, 1716406483#32, 3229660699#32⟩ := by
  show step (steps rM rV 53) (kL.getD 53 0) (sch rM 53) = _
  rw [rs53, rw53]
  kernel_rfl
theorem rs55 : steps rM rV 55 = ⟨3606536928#32, 3757204804#32, 3909230086#32, 853725078#32, 943190922#32, 3482636595#32, 3022945439#32, 1716406483#32⟩ := by
  show step (steps rM rV 54) (kL.getD 54 0) (sch rM 54) = _
  rw [rs54, rw54]
  kernel_rfl
theorem rs56 : steps rM rV 56 = ⟨1298955328#32, 3606536928#32, 3757204804#32, 3909230086#32, 2704013626#32, 943190922#32, 3482636595#32, 3022945439#32⟩ := by
  show step (steps rM rV 55) (kL.getD 55 0) (sch rM 55) = _
  rw [rs55, rw55]
  kernel_rfl
theorem rs57 : steps rM rV 57 = ⟨1326991610#32, 1298955328#32, 3606536928#32, 3757204804#32, 393973114#32, 2704013626#32, 943190922#32, 3482636595#32⟩ := by
  show step (steps rM rV 56) (kL.getD 56 0) (sch rM 56) = _
  rw [rs56, rw56]
  kernel_rfl
theorem rs58 : steps rM rV 58 = ⟨1068349196#32, 1326991610#32, 1298955328#32, 3606536928#32, 451686320#32, 393973114#32, 2704013626#32, 943190922#32⟩ := by
  show step (steps rM rV 57) (kL.getD 57 0) (sch rM 57) = _
  rw [rs57, rw57]
  kernel_rfl
theorem rs59 : steps rM rV 59 = ⟨1154115004#32, 1068349196#32, 1326991610#32, 1298955328#32, 3409882116#32, 451686320#32, 393973114#32, 2704013626#32⟩ := by
  show step (steps rM rV 58) (kL.getD 58 0) (sch rM 58) = _
  rw [rs58, rw58]
  kernel_rfl
theorem rs60 : steps rM rV 60 = ⟨4217396222#32, 1154115004#32, 1068349196#32, 1326991610#32, 3825083475#32, 3409882116#32, 451686320#32, 393973114#32⟩ := by
  show step (steps rM rV 59) (kL.getD 59 0) (sch rM 59) = _
  rw [rs59, rw59]
  kernel_rfl
theorem rs61 : steps rM rV 61 = ⟨3361936851#32, 4217396222#32, 1154115004#32, 1068349196#32, 3075649793#32, 3825083475#32, 3409882116#32, 451686320#32⟩ := by
  show step (steps rM rV 60) (kL.getD 60 0) (sch rM 60) = _
  rw [rs60, rw60]
  kernel_rfl
theorem rs62 : steps rM rV 62 = ⟨1402339095#32, 3361936851#32, 4217396222#32, 1154115004#32, 4195325656#32, 3075649793#32, 3825083475#32, 3409882116#32⟩ := by
  show step (steps rM rV 61) (kL.getD 61 0) (sch rM 61) = _
  rw [rs61, rw61]
  kernel_rfl
theorem rs63 : steps rM rV 63 = ⟨544490402#32, 1402339095#32, 3361936851#32, 4217396222#32, 238652259#32, 4195325656#32, 3075649793#32, 3825083475#32⟩ := by
  show step (steps rM rV 62) (kL.getD 62 0) (sch rM 62) = _
  rw [rs62, rw62]
  kernel_rfl
theorem rs64 : steps rM rV 64 = ⟨2974937627#32, 544490402#32, 1402339095#32, 3361936851#32, 674912955#32, 238652259#32, 4195325656#32, 3075649793#32⟩ := by
  show step (steps rM rV 63) (kL.getD 63 0) (sch rM 63) = _
  rw [rs63, rw63]
  kernel_rfl
theorem h55_run : run (pad h55L) 1 = ⟨459004034#32, 3688624679#32, 2416243337#32, 1840450317#32, 2034806074#32, 2839475183#32, 429092995#32, 322141722#32⟩ := by
  rw [h55_pad]
  show add8 rV (steps rM rV 64) = _
  rw [rs64]
  rfl
theorem h55_sum : sum h55L = [27#8, 91#8, 216#8, 130#8, 219#8, 219#8, 242#8, 39#8, 144#8, 4#8, 242#8, 137#8, 109#8, 179#8, 11#8, 13#8, 121#8, 72#8, 173#8, 58#8, 169#8, 62#8, 243#8, 239#8, 25#8, 147#8, 112#8, 131#8, 19#8, 51#8, 126#8, 26#8] := by
  have e : sum h55L = out ⟨459004034#32, 3688624679#32, 2416243337#32, 1840450317#32, 2034806074#32, 2839475183#32, 429092995#32, 322141722#32⟩ := by
    unfold sum
    rw [show (pad h55L).length / 64 = 1 by rw [h55_pad]; rfl, h55_run]
  rw [e]
  decide +kernel
def h32L : List (BitVec 8) := [27#8, 91#8, 216#8, 130#8, 219#8, 219#8, 242#8, 39#8, 144#8, 4#8, 242#8, 137#8, 109#8, 179#8, 11#8, 13#8, 121#8, 72#8, 173#8, 58#8, 169#8, 62#8, 243#8, 239#8, 25#8, 147#8, 112#8, 131#8, 19#8, 51#8, 126#8, 26#8]
theorem h32_pad : pad h32L = [27#8, 91#8, 216#8, 130#8, 219#8, 219#8, 242#8, 39#8, 144#8, 4#8, 242#8, 137#8, 109#8, 179#8, 11#8, 13#8, 121#8, 72#8, 173#8, 58#8, 169#8, 62#8, 243#8, 239#8, 25#8, 147#8, 112#8, 131#8, 19#8, 51#8, 126#8, 26#8, 128#8, 0#8, 0#8, 0#8, 0#8, 0#8, 0#8, 0#8, 0#8, 0#8, 0#8, 0#8, 0#8, 0#8, 0#8, 0#8, 0#8, 0#8, 0#8, 0#8, 0#8, 0#8, 0#8, 0#8, 0#8, 0#8, 0#8, 0#8, 0#8, 0#8, 1#8, 0#8] := by decide +kernel
def uM : Nat → BitVec 32 := blk [27#8, 91#8, 216#8, 130#8, 219#8, 219#8, 242#8, 39#8, 144#8, 4#8, 242#8, 137#8, 109#8, 179#8, 11#8, 13#8, 121#8, 72#8, 173#8, 58#8, 169#8, 62#8, 243#8, 239#8, 25#8, 147#8, 112#8, 131#8, 19#8, 51#8, 126#8, 26#8, 128#8, 0#8, 0#8, 0#8, 0#8, 0#8, 0#8, 0#8, 0#8, 0#8, 0#8, 0#8, 0#8, 0#8, 0#8, 0#8, 0#8, 0#8, 0#8, 0#8, 0#8, 0#8, 0#8, 0#8, 0#8, 0#8, 0#8, 0#8, 0#8, 0#8, 1#8, 0#8] 0
theorem uw0 : sch uM 0 = 459004034#32 := by rw [sch_lo _ (by omega)]; decide +kernel
theorem uw1 : sch uM 1 = 3688624679#32 := by rw [sch_lo _ (by omega)]; decide +kernel
theorem uw2 : sch uM 2 = 2416243337#32 := by rw [sch_lo _ (by omega)]; decide +kernel
theorem uw3 : sch uM 3 = 1840450317#32 := by rw [sch_lo _ (by omega)]; decide +kernel
theorem uw4 : sch uM 4 = 2034806074#32 := by rw [sch_lo _ (by omega)]; decide +kernel
theorem uw5 : sch uM 5 = 2839475183#32 := by rw [sch_lo _ (by omega)]; decide +kernel
theorem uw6 : sch uM 6 = 429092995#32 := by rw [sch_lo _ (by omega)]; decide +kernel
theorem uw7 : sch uM 7 = 322141722#32 := by rw [sch_lo _ (by omega)]; decide +kernel
theorem uw8 : sch uM 8 = 2147483648#32 := by rw [sch_lo _ (by omega)]; decide +kernel
theorem uw9 : sch uM 9 = 0#32 := by rw [sch_lo _ (by omega)]; decide +kernel
theorem uw10 : sch uM 10 = 0#32 := by rw [sch_lo _ (by omega)]; decide +kernel
theorem uw11 : sch uM 11 = 0#32 := by rw [sch_lo _ (by omega)]; decide +kernel
theorem uw12 : sch uM 12 = 0#32 := by rw [sch_lo _ (by omega)]; decide +kernel
theorem uw13 : sch uM 13 = 0#32 := by rw [sch_lo _ (by omega)]; decide +kernel
theorem uw14 : sch uM 14 = 0#32 := by rw [sch_lo _ (by omega)]; decide +kernel
theorem uw15 : sch uM 15 = 256#32 := by rw [sch_lo _ (by omega)]; decide +kernel
theorem uw16 : sch uM 16 = 3282114520#32 := by rw [sch_hi _ (by omega), show 16 - 2 = 14 from rfl, show 16 - 7 = 9 from rfl, show 16 - 15 = 1 from rfl, show 16 - 16 = 0 from rfl, uw14, uw9, uw1, uw0]; decide +kernel
theorem uw17 : sch uM 17 = 436135388#32 := by rw [sch_hi _ (by omega), show 17 - 2 = 15 from rfl, show 17 - 7 = 10 from rfl, show 17 - 15 = 2 from rfl, show 17 - 16 = 1 from rfl, uw15, uw10, uw2, uw1]; decide +kernel
theorem uw18 : sch uM 18 = 249225349#32 := by rw [sch_hi _ (by omega), show 18 - 2 = 16 from rfl, show 18 - 7 = 11 from rfl, show 18 - 15 = 3 from rfl, show 18 - 16 = 2 from rfl, uw16, uw11, uw3, uw2]; decide +kernel
theorem uw19 : sch uM 19 = 1822168629#32 := by rw [sch_hi _ (by omega), show 19 - 2 = 17 from rfl, show 19 - 7 = 12 from rfl, show 19 - 15 = 4 from rfl, show 19 - 16 = 3 from rfl, uw17, uw12, uw4, uw3]; decide +kernel
theorem uw20 : sch uM 20 = 472418077#32 := by rw [sch_hi _ (by omega), show 20 - 2 = 18 from rfl, show 20 - 7 = 13 from rfl, show 20 - 15 = 5 from rfl, show 20 - 16 = 4 from rfl, uw18, uw13, uw5, uw4]; decide +kernel
theorem uw21 : sch uM 21 = 203931484#32 := by rw [sch_hi _ (by omega), show 21 - 2 = 19 from rfl, show 21 - 7 = 14 from rfl, show 21 - 15 = 6 from rfl, show 21 - 16 = 5 from rfl, uw19, uw14, uw6, uw5]; decide +kernel
theorem uw22 : sch uM 22 = 1455695654#32 := by rw [sch_hi _ (by omega), show 22 - 2 = 20 from rfl, show 22 - 7 = 15 from rfl, show 22 - 15 = 7 from rfl, show 22 - 16 = 6 from rfl, uw20, uw15, uw7, uw6]; decide +kernel
theorem uw23 : sch uM 23 = 270222442#32 := by rw [sch_hi _ (by omega), show 23 - 2 = 21 from rfl, show 23 - 7 = 16 from rfl, show 23 - 15 = 8 from rfl, show 23 - 16 = 7 from rfl, uw21, uw16, uw8, uw7]; decide +kernel
theorem uw24 : sch uM 24 = 828454543#32 := by rw [sch_hi _ (by omega), show 24 - 2 = 22 from rfl, show 24 - 7 = 17 from rfl, show 24 - 15 = 9 from rfl, show 24 - 16 = 8 from rfl, uw22, uw17, uw9, uw8]; decide +kernel
theorem uw25 : sch uM 25 = 3650563428#32 := by rw [sch_hi _ (by omega), show 25 - 2 = 23 from rfl, show 25 - 7 = 18 from rfl, show 25 - 15 = 10 from rfl, show 25 - 16 = 9 from rfl, uw23, uw18, uw10, uw9]; decide +kernel
theorem uw26 : sch uM 26 = 708197638#32 := by rw [sch_hi _ (by omega), show 26 - 2 = 24 from rfl, show 26 - 7 = 19 from rfl, show 26 - 15 = 11 from rfl, show 26 - 16 = 10 from rfl, uw24, uw19, uw11, uw10]; decide +kernel
theorem uw27 : sch uM 27 = 2404456783#32 := by rw [sch_hi _ (by omega), show 27 - 2 = 25 from rfl, show 27 - 7 = 20 from rfl, show 27 - 15 = 12 from rfl, show 27 - 16 = 11 from rfl, uw25, uw20, uw12, uw11]; decide +kernel
theorem uw28 : sch uM 28 = 3847298350#32 := by rw [sch_hi _ (by omega), show 28 - 2 = 26 from rfl, show 28 - 7 = 21 from rfl, show 28 - 15 = 13 from rfl, show 28 - 16 = 12 from rfl, uw26, uw21, uw13, uw12]; decide +kernel
theorem uw29 : sch uM 29 = 108136746#32 := by rw [sch_hi _ (by omega), show 29 - 2 = 27 from rfl, show 29 - 7 = 22 from rfl, show 29 - 15 = 14 from rfl, show 29 - 16 = 13 from rfl, uw27, uw22, uw14, uw13]; decide +kernel
theorem uw30 : sch uM 30 = 3177660113#32 := by rw [sch_hi _ (by omega), show 30 - 2 = 28 from rfl, show 30 - 7 = 23 from rfl, show 30 - 15 = 15 from rfl, show 30 - 16 = 14 from rfl, uw28, uw23, uw15, uw14]; decide +kernel
theorem uw31 : sch uM 31 = 1662543680#32 := by rw [sch_hi _ (by omega), show 31 - 2 = 29 from rfl, show 31 - 7 = 24 from rfl, show 31 - 15 = 16 from rfl, show 31 - 16 = 15 from rfl, uw29, uw24, uw16, uw15]; decide +kernel
theorem uw32 : sch uM 32 = 407969051#32 := by rw [sch_hi _ (by omega), show 32 - 2 = 30 from rfl, show 32 - 7 = 25 from rfl, show 32 - 15 = 17 from rfl, show 32 - 16 = 16 from rfl, uw30, uw25, uw17, uw16]; decide +kernel
theorem uw33 : sch uM 33 = 929941823#32 := by rw [sch_hi _ (by omega), show 33 - 2 = 31 from rfl, show 33 - 7 = 26 from rfl, show 33 - 15 = 18 from rfl, show 33 - 16 = 17 from rfl, uw31, uw26, uw18, uw17]; decide +kernel
theorem uw34 : sch uM 34 = 2921125638#32 := by rw [sch_hi _ (by omega), show 34 - 2 = 32 from rfl, show 34 - 7 = 27 from rfl, show 34 - 15 = 19 from rfl, show 34 - 16 = 18 from rfl, uw32, uw27, uw19, uw18]; decide +kernel
theorem uw35 : sch uM 35 = 3357335667#32 := by rw [sch_hi _ (by omega), show 35 - 2 = 33 from rfl, show 35 - 7 = 28 from rfl, show 35 - 15 = 20 from rfl, show 35 - 16 = 19 from rfl, uw33, uw28, uw20, uw19]; decide +kernel
theorem uw36 : sch uM 36 = 1781420507#32 := by rw [sch_hi _ (by omega), show 36 - 2 = 34 from rfl, show 36 - 7 = 29 from rfl, show 36 - 15 = 21 from rfl, show 36 - 16 = 20 from rfl, uw34, uw29, uw21, uw20]; decide +kernel
theorem uw37 : sch uM 37 = 89207165#32 := by rw [sch_hi _ (by omega), show 37 - 2 = 35 from rfl, show 37 - 7 = 30 from rfl, show 37 - 15 = 22 from rfl, show 37 - 16 = 21 from rfl, uw35, uw30, uw22, uw21]; decide +kernel
theorem uw38 : sch uM 38 = 2749545519#32 := by rw [sch_hi _ (by omega), show 38 - 2 = 36 from rfl, show 38 - 7 = 31 from rfl, show 38 - 15 = 23 from rfl, show 38 - 16 = 22 from rfl, uw36, uw31, uw23, uw22]; decide +kernel
theorem uw39 : sch uM 39 = 1021968567#32 := by rw [sch_hi _ (by omega), show 39 - 2 = 37 from rfl, show 39 - 7 = 32 from rfl, show 39 - 15 = 24 from rfl, show 39 - 16 = 23 from rfl, uw37, uw32, uw24, uw23]; decide +kernel
theorem uw40 : sch uM 40 = 2355288707#32 := by rw [sch_hi _ (by omega), show 40 - 2 = 38 from rfl, show 40 - 7 = 33 from rfl, show 40 - 15 = 25 from rfl, show 40 - 16 = 24 from rfl, uw38, uw33, uw25, uw24]; decide +kernel
theorem uw41 : sch uM 41 = 1313433897#32 := by rw [sch_hi _ (by omega), show 41 - 2 = 39 from rfl, show 41 - 7 = 34 from rfl, show 41 - 15 = 26 from rfl, show 41 - 16 = 25 from rfl, uw39, uw34, uw26, uw25]; decide +kernel
theorem uw42 : sch uM 42 = 4046270291#32 := by rw [sch_hi _ (by omega), show 42 - 2 = 40 from rfl, show 42 - 7 = 35 from rfl, show 42 - 15 = 27 from rfl, show 42 - 16 = 26 from rfl, uw40, uw35, uw27, uw26]; decide +kernel
theorem uw43 : sch uM 43 = 2571944108#32 := by rw [sch_hi _ (by omega), show 43 - 2 = 41 from rfl, show 43 - 7 = 36 from rfl, show 43 - 15 = 28 from rfl, show 43 - 16 = 27 from rfl, uw41, uw36, uw28, uw27]; decide +kernel
theorem uw44 : sch uM 44 = 4088021326#32 := by rw [sch_hi _ (by omega), show 44 - 2 = 42 from rfl, show 44 - 7 = 37 from rfl, show 44 - 15 = 29 from rfl, show 44 - 16 = 28 from rfl, uw42, uw37, uw29, uw28]; decide +kernel
theorem uw45 : sch uM 45 = 505190678#32 := by rw [sch_hi _ (by omega), show 45 - 2 = 43 from rfl, show 45 - 7 = 38 from rfl, show 45 - 15 = 30 from rfl, show 45 - 16 = 29 from rfl, uw43, uw38, uw30, uw29]; decide +kernel
theorem uw46 : sch uM 46 = 4168659352#32 := by rw [sch_hi _ (by omega), show 46 - 2 = 44 from rfl, show 46 - 7 = 39 from rfl, show 46 - 15 = 31 from rfl, show 46 - 16 = 30 from rfl, uw44, uw39, uw31, uw30]; decide +kernel
theorem uw47 : sch uM 47 = 1101387067#32 := by rw [sch_hi _ (by omega), show 47 - 2 = 45 from rfl, show 47 - 7 = 40 from rfl, show 47 - 15 = 32 from rfl, show 47 - 16 = 31 from rfl, uw45, uw40, uw32, uw31]; decide +kernel
theorem uw48 : sch uM 48 = 3223892689#32 := by rw [sch_hi _ (by omega), show 48 - 2 = 46 from rfl, show 48 - 7 = 41 from rfl, show 48 - 15 = 33 from rfl, show 48 - 16 = 32 from rfl, uw46, uw41, uw33, uw32]; decide +kernel
theorem uw49 : sch uM 49 = 2787353326#32 := by rw [sch_hi _ (by omega), show 49 - 2 = 47 from rfl, show 49 - 7 = 42 from rfl, show 49 - 15 = 34 from rfl, show 49 - 16 = 33 from rfl, uw47, uw42, uw34, uw33]; decide +kernel
theorem uw50 : sch uM 50 = 1560003000#32 := by rw [sch_hi _ (by omega), show 50 - 2 = 48 from rfl, show 50 - 7 = 43 from rfl, show 50 - 15 = 35 from rfl, show 50 - 16 = 34 from rfl, uw48, uw43, uw35, uw34]; decide +kernel
theorem uw51 : sch uM 51 = 2427550993#32 := by rw [sch_hi _ (by omega), show 51 - 2 = 49 from rfl, show 51 - 7 = 44 from rfl, show 51 - 15 = 36 from rfl, show 51 - 16 = 35 from rfl, uw49, uw44, uw36, uw35]; decide +kernel
theorem uw52 : sch uM 52 = 3628518172#32 := by rw [sch_hi _ (by omega), show 52 - 2 = 50 from rfl, show 52 - 7 = 45 from rfl, show 52 - 15 = 37 from rfl, show 52 - 16 = 36 from rfl, uw50, uw45, uw37, uw36]; decide +kernel
theorem uw53 : sch uM 53 = 1929982763#32 := by rw [sch_hi _ (by omega), show 53 - 2 = 51 from rfl, show 53 - 7 = 46 from rfl, show 53 - 15 = 38 from rfl, show 53 - 16 = 37 from rfl, uw51, uw46, uw38, uw37]; decide +kernel
theorem uw54 : sch uM 54 = 2351813424#32 := by rw [sch_hi _ (by omega), show 54 - 2 = 52 from rfl, show 54 - 7 = 47 from rfl, show 54 - 15 = 39 from rfl, show 54 - 16 = 38 from rfl, uw52, uw47, uw39, uw38]; decide +kernel
theorem uw55 : sch uM 55 = 1563641646#32 := by rw [sch_hi _ (by omega), show 55 - 2 = 53 from rfl, show 55 - 7 = 48 from rfl, show 55 - 15 = 40 from rfl, show 55 - 16 = 39 from rfl, uw53, uw48, uw40, uw39]; decide +kernel
theorem uw56 : sch uM 56 = 2273560253#32 := by rw [sch_hi _ (by omega), show 56 - 2 = 54 from rfl, show 56 - 7 = 49 from rfl, show 56 - 15 = 41 from rfl, show 56 - 16 = 40 from rfl, uw54, uw49, uw41, uw40]; decide +kernel
theorem uw57 : sch uM 57 = 1757272270#32 := by rw [sch_hi _ (by omega), show 57 - 2 = 55 from rfl, show 57 - 7 = 50 from rfl, show 57 - 15 = 42 from rfl, show 57 - 16 = 41 from rfl, uw55, uw50, uw42, uw41]; decide +kernel
theorem uw58 : sch uM 58 = 2545379307#32 := by rw [sch_hi _ (by omega), show 58 - 2 = 56 from rfl, show 58 - 7 = 51 from rfl, show 58 - 15 = 43 from rfl, show 58 - 16 = 42 from rfl, uw56, uw51, uw43, uw42]; decide +kernel
theorem uw59 : sch uM 59 = 3703177800#32 := by rw [sch_hi _ (by omega), show 59 - 2 = 57 from rfl, show 59 - 7 = 52 from rfl, show 59 - 15 = 44 from rfl, show 59 - 16 = 43 from rfl, uw57, uw52, uw44, uw43]; decide +kernel
theorem uw60 : sch uM 60 = 3483039492#32 := by rw [sch_hi _ (by omega), show 60 - 2 = 58 from rfl, show 60 - 7 = 53 from rfl, show 60 - 15 = 45 from rfl, show 60 - 16 = 44 from rfl, uw58, uw53, uw45, uw44]; decide +kernel
theorem uw61 : sch uM 61 = 3997081822#32 := by rw [sch_hi _ (by omega), show 61 - 2 = 59 from rfl, show 61 - 7 = 54 from rfl, show 61 - 15 = 46 from rfl, show 61 - 16 = 45 from rfl, uw59, uw54, uw46, uw45]; decide +kernel
theorem uw62 : sch uM 62 = 2264281773#32 := by rw [sch_hi _ (by omega), show 62 - 2 = 60 from rfl, show 62 - 7 = 55 from rfl, show 62 - 15 = 47 from rfl, show 62 - 16 = 46 from rfl, uw60, uw55, uw47, uw46]; decide +kernel
theorem uw63 : sch uM 63 = 3836344477#32 := by rw [sch_hi _ (by omega), show 63 - 2 = 61 from rfl, show 63 - 7 = 56 from rfl, show 63 - 15 = 48 from rfl, show 63 - 16 = 47 from rfl, uw61, uw56, uw48, uw47]; decide +kernel
def uV : V8 := ⟨1779033703#32, 3144134277#32, 1013904242#32, 2773480762#32, 1359893119#32, 2600822924#32, 528734635#32, 1541459225#32⟩
theorem us0 : steps uM uV 0 = ⟨1779033703#32, 3144134277#32, 1013904242#32, 2773480762#32, 1359893119#32, 2600822924#32, 528734635#32, 1541459225#32⟩ := rfl
theorem us1 : steps uM uV 1 = ⟨392454351#32, 1779033703#32, 3144134277#32, 1013904242#32, 3022240548#32, 1359893119#32, 2600822924#32, 528734635#32⟩ := by
  show step (steps uM uV 0) (kL.getD 0 0) (sch uM 0) = _
  rw [us0, uw0]
  kernel_rfl
theorem us2 : steps uM uV 2 = ⟨4240540132#32, 392454351#32, 1779033703#32, 3144134277#32, 2879909698#32, 3022240548#32, 1359893119#32, 2600822924#32⟩ := by
  show step (steps uM uV 1) (kL.getD 1 0) (sch uM 1) = _
  rw [us1, uw1]
  kernel_rfl
theorem us3 : steps uM uV 3 = ⟨3059045027#32, 4240540132#32, 392454351#32, 1779033703#32, 3177908923#32, 2879909698#32, 3022240548#32, 1359893119#32⟩ := by
  show step (steps uM uV 2) (kL.getD 2 0) (sch uM 2) = _
  rw [us2, uw2]
  kernel_rfl
theorem us4 : steps uM uV 4 = ⟨1101658766#32, 3059045027#32, 4240540132#32, 392454351#32, 3349952307#32, 3177908923#32, 2879909698#32, 3022240548#32⟩ := by
  show step (steps uM uV 3) (kL.getD 3 0) (sch uM 3) = _
  rw [us3, uw3]
  kernel_rfl
theorem us5 : steps uM uV 5 = ⟨3961581429#32, 1101658766#32, 3059045027#32, 4240540132#32, 718353076#32, 3349952307#32, 3177908923#32, 2879909698#32⟩ := by
  show step (steps uM uV 4) (kL.getD 4 0) (sch uM 4) = _
  rw [us4, uw4]
  kernel_rfl
theorem us6 : steps uM uV 6 = ⟨2624978023#32, 3961581429#32, 1101658766#32, 3059045027#32, 838530618#32, 718353076#32, 3349952307#32, 3177908923#32⟩ := by
  show step (steps uM uV 5) (kL.getD 5 0) (sch uM 5) = _
  rw [us5, uw5]
  kernel_rfl
theorem us7 : steps uM uV 7 = ⟨3271490527#32, 2624978023#32, 3961581429#32, 1101658766#32, 3647098196#32, 838530618#32, 718353076#32, 3349952307#32⟩ := by
  show step (steps uM uV 6) (kL.getD 6 0) (sch uM 6) = _
  rw [us6, uw6]
  kernel_rfl
theorem us8 : steps uM uV 8 = ⟨2766892900#32, 3271490527#32, 2624978023#32, 3961581429#32, 1148294256#32, 3647098196#32, 838530618#32, 718353076#32⟩ := by
  show step (steps uM uV 7) (kL.getD 7 0) (sch uM 7) = _
  rw [us7, uw7]
  kernel_rfl
theorem us9 : steps uM uV 9 = ⟨4047053151#32, 2766892900#32, 3271490527#32, 2624978023#32, 1488429916#32, 1148294256#32, 3647098196#32, 838530618#32⟩ := by
  show step (steps uM uV 8) (kL.getD 8 0) (sch uM 8) = _
  rw [us8, uw8]
  kernel_rfl
theorem us10 : steps uM uV 10 = ⟨978890137#32, 4047053151#32, 2766892900#32, 3271490527#32, 3818815559#32, 1488429916#32, 1148294256#32, 3647098196#32⟩ := by
  show step (steps uM uV 9) (kL.getD 9 0) (sch uM 9) = _
  rw [us9, uw9]
  kernel_rfl
theorem us11 : steps uM uV 11 = ⟨203447373#32, 978890137#32, 4047053151#32, 2766892900#32, 3720121733#32, 3818815559#32, 1488429916#32, 1148294256#32⟩ := by
  show step (steps uM uV 10) (kL.getD 10 0) (sch uM 10) = _
  rw [us10, uw10]
  kernel_rfl
theorem us12 : steps uM uV 12 = ⟨754101079#32, 203447373#32, 978890137#32, 4047053151#32, 2039786301#32, 3720121733#32, 3818815559#32, 1488429916#32⟩ := by
  show step (steps uM uV 11) (kL.getD 11 0) (sch uM 11) = _
  rw [us11, uw11]
  kernel_rfl
theorem us13 : steps uM uV 13 = ⟨2261436396#32, 754101079#32, 203447373#32, 978890137#32, 4033522171#32, 2039786301#32, 3720121733#32, 3818815559#32⟩ := by
  show step (steps uM uV 12) (kL.getD 12 0) (sch uM 12) = _
  rw [us12, uw12]
  kernel_rfl
theorem us14 : steps uM uV 14 = ⟨178863759#32, 2261436396#32, 754101079#32, 203447373#32, 39184165#32, 4033522171#32, 2039786301#32, 3720121733#32⟩ := by
  show step (steps uM uV 13) (kL.getD 13 0) (sch uM 13) = _
  rw [us13, uw13]
  kernel_rfl
theorem us15 : steps uM uV 15 = ⟨4005995413#32, 178863759#32, 2261436396#32, 754101079#32, 1507076435#32, 39184165#32, 4033522171#32, 2039786301#32⟩ := by
  show step (steps uM uV 14) (kL.getD 14 0) (sch uM 14) = _
  rw [us14, uw14]
  kernel_rfl
theorem us16 : steps uM uV 16 = ⟨1965241310#32, 4005995413#32, 178863759#32, 2261436396#32, 2512039485#32, 1507076435#32, 39184165#32, 4033522171#32⟩ := by
  show step (steps uM uV 15) (kL.getD 15 0) (sch uM 15) = _
  rw [us15, uw15]
  kernel_rfl
theorem us17 : steps uM uV 17 = ⟨2538022821#32, 1965241310#32, 4005995413#32, 178863759#32, 536518584#32, 2512039485#32, 1507076435#32, 39184165#32⟩ := by
  show step (steps uM uV 16) (kL.getD 16 0) (sch uM 16) = _
  rw [us16, uw16]
  kernel_rfl
theorem us18 : steps uM uV 18 = ⟨2276496710#32, 2538022821#32, 1965241310#32, 4005995413#32, 1454295731#32, 536518584#32, 2512039485#32, 1507076435#32⟩ := by
  show step (steps uM uV 17) (kL.getD 17 0) (sch uM 17) = _
  rw [us17, uw17]
  kernel_rfl
theorem us19 : steps uM uV 19 = ⟨1026607171#32, 2276496710#32, 2538022821#32, 1965241310#32, 3410440519#32, 1454295731#32, 536518584#32, 2512039485#32⟩ := by
  show step (steps uM uV 18) (kL.getD 18 0) (sch uM 18) = _
  rw [us18, uw18]
  kernel_rfl
theorem us20 : steps uM uV 20 = ⟨4145293672#32, 1026607171#32, 2276496710#32, 2538022821#32, 2257715357#32, 3410440519#32, 1454295731#32, 536518584#32⟩ := by
  show step (steps uM uV 19) (kL.getD 19 0) (sch uM 19) = _
  rw [us19, uw19]
  kernel_rfl
theorem us21 : steps uM uV 21 = ⟨1178438741#32, 4145293672#32, 1026607171#32, 2276496710#32, 2955665#32, 2257715357#32, 3410440519#32, 1454295731#32⟩ := by
  show step (steps uM uV 20) (kL.getD 20 0) (sch uM 20) = _
  rw [us20, uw20]
  kernel_rfl
theorem us22 : steps uM uV 22 = ⟨360855799#32, 1178438741#32, 4145293672#32, 1026607171#32, 1625964059#32, 2955665#32, 2257715357#32, 3410440519#32⟩ := by
  show step (steps uM uV 21) (kL.getD 21 0) (sch uM 21) = _
  rw [us21, uw21]
  kernel_rfl
theorem us23 : steps uM uV 23 = ⟨1110768092#32, 360855799#32, 1178438741#32, 4145293672#32, 504732464#32, 1625964059#32, 2955665#32, 2257715357#32⟩ := by
  show step (steps uM uV 22) (kL.getD 22 0) (sch uM 22) = _
  rw [us22, uw22]
  kernel_rfl
theorem us24 : steps uM uV 24 = ⟨239209711#32, 1110768092#32, 360855799#32, 1178438741#32, 2979602090#32, 504732464#32, 1625964059#32, 2955665#32⟩ := by
  show step (steps uM uV 23) (kL.getD 23 0) (sch uM 23) = _
  rw [us23, uw23]
  kernel_rfl
theorem us25 : steps uM uV 25 = ⟨2151441333#32, 239209711#32, 1110768092#32, 360855799#32, 329017849#32, 2979602090#32, 504732464#32, 1625964059#32⟩ := by
  show step (steps uM uV 24) (kL.getD 24 0) (sch uM 24) = _
  rw [us24, uw24]
  kernel_rfl
theorem us26 : steps uM uV 26 = ⟨2751988802#32, 2151441333#32, 239209711#32, 1110768092#32, 724042798#32, 329017849#32, 2979602090#32, 504732464#32⟩ := by
  show step (steps uM uV 25) (kL.getD 25 0) (sch uM 25) = _
  rw [us25, uw25]
  kernel_rfl
theorem us27 : steps uM uV 27 = ⟨1684151634#32, 2751988802#32, 2151441333#32, 239209711#32, 2005460615#32, 724042798#32, 329017849#32, 2979602090#32⟩ := by
  show step (steps uM uV 26) (kL.getD 26 0) (sch uM 26) = _
  rw [us26, uw26]
  kernel_rfl
theorem us28 : steps uM uV 28 = ⟨3435809186#32, 1684151634#32, 2751988802#32, 2151441333#32, 988111722#32, 2005460615#32, 724042798#32, 329017849#32⟩ := by
  show step (steps uM uV 27) (kL.getD 27 0) (sch uM 27) = _
  rw [us27, uw27]
  kernel_rfl
theorem us29 : steps uM uV 29 = ⟨1707082151#32, 3435809186#32, 1684151634#32, 2751988802#32, 716167441#32, 988111722#32, 2005460615#32, 724042798#32⟩ := by
  show step (steps uM uV 28) (kL.getD 28 0) (sch uM 28) = _
  rw [us28, uw28]
  kernel_rfl
theorem us30 : steps uM uV 30 = ⟨4049216975#32, 1707082151#32, 3435809186#32, 1684151634#32, 1548905585#32, 716167441#32, 988111722#32, 2005460615#32⟩ := by
  show step (steps uM uV 29) (kL.getD 29 0) (sch uM 29) = _
  rw [us29, uw29]
  kernel_rfl
theorem us31 : steps uM uV 31 = ⟨1767312676#32, 4049216975#32, 1707082151#32, 3435809186#32, 758180968#32, 1548905585#32, 716167441#32, 988111722#32⟩ := by
  show step (steps uM uV 30) (kL.getD 30 0) (sch uM 30) = _
  rw [us30, uw30]
  kernel_rfl
theorem us32 : steps uM uV 32 = ⟨119660855#32, 1767312676#32, 4049216975#32, 1707082151#32, 1129843934#32, 758180968#32, 1548905585#32, 716167441#32⟩ := by
  show step (steps uM uV 31) (kL.getD 31 0) (sch uM 31) = _
  rw [us31, uw31]
  kernel_rfl
theorem us33 : steps uM uV 33 = ⟨2278921138#32, 119660855#32, 1767312676#32, 4049216975#32, 1011733204#32, 1129843934#32, 758180968#32, 1548905585#32⟩ := by
  show step (steps uM uV 32) (kL.getD 32 0) (sch uM 32) = _
  rw [us32, uw32]
  kernel_rfl
theorem us34 : steps uM uV 34 = ⟨1635281512#32, 2278921138#32, 119660855#32, 1767312676#32, 3779952290#32, 1011733204#32, 1129843934#32, 758180968#32⟩ := by
  show step (steps uM uV 33) (kL.getD 33 0) (sch uM 33) = _
  rw [us33, uw33]
  kernel_rfl
theorem us35 : steps uM uV 35 = ⟨4133774713#32, 1635281512#32, 2278921138#32, 119660855#32, 2912214671#32, 3779952290#32, 1011733204#32, 1129843934#32⟩ := by
  show step (steps uM uV 34) (kL.getD 34 0) (sch uM 34) = _
  rw [us34, uw34]
  kernel_rfl
theorem us36 : steps uM uV 36 = ⟨3831410825#32, 4133774713#32, 1635281512#32, 2278921138#32, 1011409060#32, 2912214671#32, 3779952290#32, 1011733204#32⟩ := by
  show step (steps uM uV 35) (kL.getD 35 0) (sch uM 35) = _
  rw [us35, uw35]
  kernel_rfl
theorem us37 : steps uM uV 37 = ⟨78280888#32, 3831410825#32, 4133774713#32, 1635281512#32, 543752891#32, 1011409060#32, 2912214671#32, 3779952290#32⟩ := by
  show step (steps uM uV 36) (kL.getD 36 0) (sch uM 36) = _
  rw [us36, uw36]
  kernel_rfl
theorem us38 : steps uM uV 38 = ⟨3955316832#32, 78280888#32, 3831410825#32, 4133774713#32, 4223858336#32, 543752891#32, 1011409060#32, 2912214671#32⟩ := by
  show step (steps uM uV 37) (kL.getD 37 0) (sch uM 37) = _
  rw [us37, uw37]
  kernel_rfl
theorem us39 : steps uM uV 39 = ⟨2406387438#32, 3955316832#32, 78280888#32, 3831410825#32, 2758930434#32, 4223858336#32, 543752891#32, 1011409060#32⟩ := by
  show step (steps uM uV 38) (kL.getD 38 0) (sch uM 38) = _
  rw [us38, uw38]
  kernel_rfl
theorem us40 : steps uM uV 40 = ⟨3702129951#32, 2406387438#32, 3955316832#32, 78280888#32, 3263822286#32, 2758930434#32, 4223858336#32, 543752891#32⟩ := by
  show step (steps uM uV 39) (kL.getD 39 0) (sch uM 39) = _
  rw [us39, uw39]
  kernel_rfl
theorem us41 : steps uM uV 41 = ⟨2527622541#32, 3702129951#32, 2406387438#32, 3955316832#32, 1403569778#32, 3263822286#32, 2758930434#32, 4223858336#32⟩ := by
  show step (steps uM uV 40) (kL.getD 40 0) (sch uM 40) = _
  rw [us40, uw40]
  kernel_rfl
theorem us42 : steps uM uV 42 = ⟨3005434247#32, 2527622541#32, 3702129951#32, 2406387438#32, 2552888798#32, 1403569778#32, 3263822286#32, 2758930434#32⟩ := by
  show step (steps uM uV 41) (kL.getD 41 0) (sch uM 41) = _
  rw [us41, uw41]
  kernel_rfl
theorem us43 : steps uM uV 43 = ⟨1147033569#32, 3005434247#32, 2527622541#32, 3702129951#32, 256854921#32, 2552888798#32, 1403569778#32, 3263822286#32⟩ := by
  show step (steps uM uV 42) (kL.getD 42 0) (sch uM 42) = _
  rw [us42, uw42]
  kernel_rfl
theorem us44 : steps uM uV 44 = ⟨2618454519#32, 1147033569#32, 3005434247#32, 2527622541#32, 1263529846#32, 256854921#32, 2552888798#32, 1403569778#32⟩ := by
  show step (steps uM uV 43) (kL.getD 43 0) (sch uM 43) = _
  rw [us43, uw43]
  kernel_rfl
theorem us45 : steps uM uV 45 = ⟨4193987915#32, 2618454519#32, 1147033569#32, 3005434247#32, 3675369043#32, 1263529846#32, 256854921#32, 2552888798#32⟩ := by
  show step (steps uM uV 44) (kL.getD 44 0) (sch uM 44) = _
  rw [us44, uw44]
  kernel_rfl
theorem us46 : steps uM uV 46 = ⟨1054751650#32, 4193987915#32, 2618454519#32, 1147033569#32, 2635260890#32, 3675369043#32, 1263529846#32, 256854921#32⟩ := by
  show step (steps uM uV 45) (kL.getD 45 0) (sch uM 45) = _
  rw [us45, uw45]
  kernel_rfl
theorem us47 : steps uM uV 47 = ⟨1454182526#32, 1054751650#32, 4193987915#32, 2618454519#32, 3018341786#32, 2635260890#32, 3675369043#32, 1263529846#32⟩ := by
  show step (steps uM uV 46) (kL.getD 46 0) (sch uM 46) = _
  rw [us46, uw46]
  kernel_rfl
theorem us48 : steps uM uV 48 = ⟨3306183483#32, 1454182526#32, 1054751650#32, 4193987915#32, 1074498459#32, 3018341786#32, 2635260890#32, 3675369043#32⟩ := by
  show step (steps uM uV 47) (kL.getD 47 0) (sch uM 47) = _
  rw [us47, uw47]
  kernel_rfl
theorem us49 : steps uM uV 49 = ⟨775445413#32, 3306183483#32, 1454182526#32, 1054751650#32, 1738579038#32, 1074498459#32, 3018341786#32, 2635260890#32⟩ := by
  show step (steps uM uV 48) (kL.getD 48 0) (sch uM 48) = _
  rw [us48, uw48]
  kernel_rfl
theorem us50 : steps uM uV 50 = ⟨299189389#32, 775445413#32, 3306183483#32, 1454182526#32, 2461086045#32, 1738579038#32, 1074498459#32, 3018341786#32⟩ := by
  show step (steps uM uV 49) (kL.getD 49 0) (sch uM 49) = _
  rw [us49, uw49]
  kernel_rfl
theorem us51 : steps uM uV 51 = ⟨3126301985#32, 299189389#32, 775445413#32, 3306183483#32, 3605290532#32, 2461086045#32, 1738579038#32, 1074498459#32⟩ := by
  show step (steps uM uV 50) (kL.getD 50 0) (sch uM 50) = _
  rw [us50, uw50]
  kernel_rfl
theorem us52 : steps uM uV 52 = ⟨3005135897#32, 3126301985#32, 299189389#32, 775445413#32, 2752319634#32, 3605290532#32, 2461086045#32, 1738579038#32⟩ := by
  show step (steps uM uV 51) (kL.getD 51 0) (sch uM 51) = _
  rw [us51, uw51]
  kernel_rfl
theorem us53 : steps uM uV 53 = ⟨408323956#32, 3005135897#32, 3126301985#32, 299189389#32, 2621242833#32, 2752319634#32, 3605290532#32, 2461086045#32⟩ := by
  show step (steps uM uV 52) (kL.getD 52 0) (sch uM 52) = _
  rw [us52, uw52]
  kernel_rfl
theorem us54 : steps uM uV 54 = ⟨530318949#32, 408323956#32, 3005135897#32, 3126301985#32, 259130041#32, 2621242833#32, 2752319634#32, 3605290532#32⟩ := by
  show step (steps uM uV 53) (kL.getD 53 0) (sch uM 53) = _
  rw [us53, uw53]
  kernel_rfl
theorem us55 : steps uM uV 55 = ⟨2499704447#32, 530318949#32, 408323956#32, 3005135897#32, 794893348#32, 259130041#32, 2621242833#32, 2752319634#32⟩ := by
  show step (steps uM uV 54) (kL.getD 54 0) (sch uM 54) = _
  rw [us54, uw54]
  kernel_rfl
theorem us56 : steps uM uV 56 = ⟨2040196764#32, 2499704447#32, 530318949#32, 408323956#32, 1623252993#32, 794893348#32, 259130041#32, 2621242833#32⟩ := by
  show step (steps uM uV 55) (kL.getD 55 0) (sch uM 55) = _
  rw [us55, uw55]
  kernel_rfl
theorem us57 : steps uM uV 57 = ⟨1283379827#32, 2040196764#32, 2499704447#32, 530318949#32, 1173875924#32, 1623252993#32, 794893348#32, 259130041#32⟩ := by
  show step (steps uM uV 56) (kL.getD 56 0) (sch uM 56) = _
  rw [us56, uw56]
  kernel_rfl
theorem us58 : steps uM uV 58 = ⟨2764720988#32, 1283379827#32, 2040196764#32, 2499704447#32, 2879078631#32, 1173875924#32, 1623252993#32, 794893348#32⟩ := by
  show step (steps uM uV 57) (kL.getD 57 0) (sch uM 57) = _
  rw [us57, uw57]
  kernel_rfl
theorem us59 : steps uM uV 59 = ⟨2777013015#32, 2764720988#32, 1283379827#32, 2040196764#32, 1924055332#32, 2879078631#32, 1173875924#32, 1623252993#32⟩ := by
  show step (steps uM uV 58) (kL.getD 58 0) (sch uM 58) = _
  rw [us58, uw58]
  kernel_rfl
theorem us60 : steps uM uV 60 = ⟨2680204798#32, 2777013015#32, 2764720988#32, 1283379827#32, 1306311878#32, 1924055332#32, 2879078631#32, 1173875924#32⟩ := by
  show step (steps uM uV 59) (kL.getD 59 0) (sch uM 59) = _
  rw [us59, uw59]
  kernel_rfl
theorem us61 : steps uM uV 61 = ⟨1760970908#32, 2680204798#32, 2777013015#32, 2764720988#32, 1157701804#32, 1306311878#32, 1924055332#32, 2879078631#32⟩ := by
  show step (steps uM uV 60) (kL.getD 60 0) (sch uM 60) = _
  rw [us60, uw60]
  kernel_rfl
theorem us62 : steps uM uV 62 = ⟨262639756#32, 1760970908#32, 2680204798#32, 2777013015#32, 2125491732#32, 1157701804#32, 1306311878#32, 1924055332#32⟩ := by
  show step (steps uM uV 61) (kL.getD 61 0) (sch uM 61) = _
  rw [us61, uw61]
  kernel_rfl
theorem us63 : steps uM uV 63 = ⟨4074739669#32, 262639756#32, 1760970908#32, 2680204798#32, 1857241391#32, 2125491732#32, 1157701804#32, 1306311878#32⟩ := by
  show step (steps uM uV 62) (kL.getD 62 0) (sch uM 62) = _
  rw [us62, uw62]
  kernel_rfl
theorem us64 : steps uM uV 64 = ⟨1373557010#32, 4074739669#32, 262639756#32, 1760970908#32, 3395340722#32, 1857241391#32, 2125491732#32, 1157701804#32⟩ := by
  show step (steps uM uV 63) (kL.getD 63 0) (sch uM 63) = _
  rw [us63, uw63]
  kernel_rfl
theorem h32_run : run (pad h32L) 1 = ⟨3152590713#32, 2923906650#32, 1276543998#32, 239484374#32, 460266545#32, 163097019#32, 2654226367#32, 2699161029#32⟩ := by
  rw [h32_pad]
  show add8 uV (steps uM uV 64) = _
  rw [us64]
  rfl
theorem h32_sum : sum h32L = [187#8, 232#8, 183#8, 121#8, 174#8, 71#8, 70#8, 90#8, 76#8, 22#8, 131#8, 254#8, 14#8, 70#8, 61#8, 214#8, 27#8, 111#8, 28#8, 49#8, 9#8, 184#8, 169#8, 187#8, 158#8, 52#8, 71#8, 191#8, 160#8, 225#8, 237#8, 197#8] := by
  have e : sum h32L = out ⟨3152590713#32, 2923906650#32, 1276543998#32, 239484374#32, 460266545#32, 163097019#32, 2654226367#32, 2699161029#32⟩ := by
    unfold sum
    rw [show (pad h32L).length / 64 = 1 by rw [h32_pad]; rfl, h32_run]
  rw [e]
  decide +kernel
end Go.Proofs.YtijemcfnlbapjaaGreatDoor.Dg.Ex
