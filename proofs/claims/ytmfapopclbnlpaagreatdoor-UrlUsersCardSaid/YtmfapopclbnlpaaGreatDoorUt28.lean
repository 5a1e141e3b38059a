import Derived.Test.YtmfapopclbnlpaaGreatDoorProg
import Derived.ProofKit
import Derived.Test.YtmfapopclbnlpaaGreatDoorUt6
import Derived.Test.YtmfapopclbnlpaaGreatDoorUt25
import Derived.Test.YtmfapopclbnlpaaGreatDoorUt27
set_option linter.unusedVariables false
set_option linter.unusedSimpArgs false
set_option maxRecDepth 100000
set_option maxHeartbeats 4000000
namespace Go.Proofs.YtmfapopclbnlpaaGreatDoor
open Go Go.Proofs Go.RowKit Go.Vc
section
def oG:cq:=bN [(131,nO)]
def oH(sc us pw:Bs)(hk:Int)(hs:Bs)(hn:Int)(hp:List Int)(port:Int)(opq pn:Bool)(pl:List Bs)(hq:Bool)(q:Bs)(hf:Bool)(fg:Bs)(bare sp:Bool)(rst:Bs)(bsc bus bpw:Bs)(bhk:Int)(bhs:Bs)(bhn:Int)(bhp:List Int)(bport:Int)(bopq bpn:Bool)(bpl:List Bs)(bhq:Bool)(bq:Bs)(bhf:Bool)(bfg:Bs):aY:=fun i=>none
theorem re:cS Tryz.prog ay oG:=ai vt (ax)
theorem vu(sc us pw:Bs)(hk:Int)(hs:Bs)(hn:Int)(hp:List Int)(port:Int)(opq pn:Bool)(pl:List Bs)(hq:Bool)(q:Bs)(hf:Bool)(fg:Bs)(bare sp:Bool)(rst:Bs)(bsc bus bpw:Bs)(bhk:Int)(bhs:Bs)(bhn:Int)(bhp:List Int)(bport:Int)(bopq bpn:Bool)(bpl:List Bs)(bhq:Bool)(bq:Bs)(bhf:Bool)(bfg:Bs)(k:PV→List PV→Prop):bK Tryz.prog oG ay (oH sc us pw hk hs hn hp port opq pn pl hq q hf fg bare sp rst bsc bus bpw bhk bhs bhn bhp bport bopq bpn bpl bhq bq bhf bfg) 1000 Tryz.f85 [.ptr 0 0] [aC 1 (.ptr 1 0) sc us pw hk hs hn hp port opq pn pl hq q hf fg bare sp rst,bD 0 bsc bus bpw bhk bhs bhn bhp bport bopq bpn bpl bhq bq bhf bfg] k=(
 bpl.length.le (1000000:Nat)∧
 k (PV.tup []) [bT (PV.ptr (1:Nat) (0:Nat)) 1 sc us pw hk hs hn hp port opq bpn bpl hq q hf fg bare sp rst,bD (0:Nat) bsc bus bpw bhk bhs bhn bhp bport bopq bpn bpl bhq bq bhf bfg]):=by kernel_rfl
attribute [local irreducible] Go.Vc.cC Go.Vc.bK
theorem rf(sc us pw:Bs)(hk:Int)(hs:Bs)(hn:Int)(hp:List Int)(port:Int)(opq pn:Bool)(pl:List Bs)(hq:Bool)(q:Bs)(hf:Bool)(fg:Bs)(bare sp:Bool)(rst:Bs)(bsc bus bpw:Bs)(bhk:Int)(bhs:Bs)(bhn:Int)(bhp:List Int)(bport:Int)(bopq bpn:Bool)(bpl:List Bs)(bhq:Bool)(bq:Bs)(bhf:Bool)(bfg:Bs):bj Tryz.prog ay 85 [.ptr 0 0] [aC 1 (.ptr 1 0) sc us pw hk hs hn hp port opq pn pl hq q hf fg bare sp rst,bD 0 bsc bus bpw bhk bhs bhn bhp bport bopq bpn bpl bhq bq bhf bfg] (bpl.length≤1000000) (.tup []) [aC 1 (.ptr 1 0) sc us pw hk hs hn hp port opq bpn bpl hq q hf fg bare sp rst,bD 0 bsc bus bpw bhk bhs bhn bhp bport bopq bpn bpl bhq bq bhf bfg]:=bt (by kernel_rfl) re (H:=oH sc us pw hk hs hn hp port opq pn pl hq q hf fg bare sp rst bsc bus bpw bhk bhs bhn bhp bport bopq bpn bpl bhq bq bhf bfg) (fuel:=1000) Tryz.func85 (by kernel_rfl) (Nat.le_of_ble_eq_true rfl) fun hpre=>(vu sc us pw hk hs hn hp port opq pn pl hq q hf fg bare sp rst bsc bus bpw bhk bhs bhn bhp bport bopq bpn bpl bhq bq bhf bfg _).mpr (by
 exact ⟨hpre,rfl,rfl⟩)
theorem vv(sc us pw:Bs)(hk:Int)(hs:Bs)(hn:Int)(hp:List Int)(port:Int)(opq pn:Bool)(pl:List Bs)(hq:Bool)(q:Bs)(hf:Bool)(fg:Bs)(bare sp:Bool)(rst:Bs)(bsc bus bpw:Bs)(bhk:Int)(bhs:Bs)(bhn:Int)(bhp:List Int)(bport:Int)(bopq bpn:Bool)(bpl:List Bs)(bhq:Bool)(bq:Bs)(bhf:Bool)(bfg:Bs):ag Tryz.prog ay 85 [.ptr 0 0,aC 1 (.ptr 1 0) sc us pw hk hs hn hp port opq pn pl hq q hf fg bare sp rst,bD 0 bsc bus bpw bhk bhs bhn bhp bport bopq bpn bpl bhq bq bhf bfg] ⟨bpl.length≤1000000,.tup [.tup [],aC 1 (.ptr 1 0) sc us pw hk hs hn hp port opq bpn bpl hq q hf fg bare sp rst,bD 0 bsc bus bpw bhk bhs bhn bhp bport bopq bpn bpl bhq bq bhf bfg]⟩:=ag.aZ (fun h=>by have e:List.isEmpty (PV.aA PV.br [.ptr 0 0,aC 1 (.ptr 1 0) sc us pw hk hs hn hp port opq pn pl hq q hf fg bare sp rst,bD 0 bsc bus bpw bhk bhs bhn bhp bport bopq bpn bpl bhq bq bhf bfg])=false:=(by kernel_rfl);exact Bool.noConfusion (e.symm.trans (congrArg List.isEmpty h))) (rf sc us pw hk hs hn hp port opq pn pl hq q hf fg bare sp rst bsc bus bpw bhk bhs bhn bhp bport bopq bpn bpl bhq bq bhf bfg)
def hZ:List PV→Option aI:=fun xs=>match xs with
 |[.ptr 0 0,aC 1 (.ptr 1 0) sc us pw hk hs hn hp port opq pn pl hq q hf fg bare sp rst,bD 0 bsc bus bpw bhk bhs bhn bhp bport bopq bpn bpl bhq bq bhf bfg]=>some ⟨bpl.length≤1000000,.tup [.tup [],aC 1 (.ptr 1 0) sc us pw hk hs hn hp port opq bpn bpl hq q hf fg bare sp rst,bD 0 bsc bus bpw bhk bhs bhn bhp bport bopq bpn bpl bhq bq bhf bfg]⟩
 |_=>none
theorem nP:∀xs c,hZ xs=some c→ag Tryz.prog ay 85 xs c:=fun xs c h=>by
 unfold hZ at h
 split at h
 ·injection h with h;subst h;exact vv _ _ _ _ _ _ _ _ _ _ _ _ _ _ _ _ _ _ _ _ _ _ _ _ _ _ _ _ _ _ _ _ _
 ·cases h
end
section
def BM:cq:=bN [(82,jX),(84,fY),(77,gS),(85,hZ),(86,lx),(122,jZ),(90,nK)]
def BN(sc us pw:Bs)(hk:Int)(hs:Bs)(hn:Int)(hp:List Int)(port:Int)(opq pn:Bool)(pl:List Bs)(hq:Bool)(q:Bs)(hf:Bool)(fg:Bs)(bare sp:Bool)(rst:Bs)(bsc bus bpw:Bs)(bhk:Int)(bhs:Bs)(bhn:Int)(bhp:List Int)(bport:Int)(bopq bpn:Bool)(bpl:List Bs)(bhq:Bool)(bq:Bs)(bhf:Bool)(bfg:Bs):aY:=fun i=>none
theorem Ap:cS Tryz.prog ay BM:=ai qX (ai lv (ai jY (ai nP (ai rS (ai qZ (ai vi (ax)))))))
theorem Gu(sc us pw:Bs)(hk:Int)(hs:Bs)(hn:Int)(hp:List Int)(port:Int)(opq pn:Bool)(pl:List Bs)(hq:Bool)(q:Bs)(hf:Bool)(fg:Bs)(bare sp:Bool)(rst:Bs)(bsc bus bpw:Bs)(bhk:Int)(bhs:Bs)(bhn:Int)(bhp:List Int)(bport:Int)(bopq bpn:Bool)(bpl:List Bs)(bhq:Bool)(bq:Bs)(bhf:Bool)(bfg:Bs)(k:PV→List PV→Prop):bK Tryz.prog BM ay (BN sc us pw hk hs hn hp port opq pn pl hq q hf fg bare sp rst bsc bus bpw bhk bhs bhn bhp bport bopq bpn bpl bhq bq bhf bfg) 1000 Tryz.f76 [.ptr 0 0] [aC 1 (.ptr 1 0) sc us pw hk hs hn hp port opq pn pl hq q hf fg bare sp rst,bD 0 bsc bus bpw bhk bhs bhn bhp bport bopq bpn bpl bhq bq bhf bfg] k=(
 (((0:Int)≤(0:Int)∧
 (0:Int)<(1000:Int))∧
 az sp rst (0:Int)=false)∧
 (false=true→
 (((0:Int)≤(1:Int)∧
 (1:Int)<(1000:Int))∧
 az sp rst (1:Int)=false)∧
 (false=true→
 upto (2:Int) (ak rst) (ak rst)∧
 False∧
 False)∧
 (false=false→
 az sp rst (0:Int)=false∧
 (false=true→
 False)∧
 (false=false→
 bsc=sc∧
 ((!true)=true→
 (List.length rst≤(300000:Nat)∧
 pl.length≤(100000:Nat))∧
 k (PV.int .i64 (0:Int)) [bT (PV.ptr (1:Nat) (0:Nat)) 1 sc us pw (1:Int) hs hn hp port opq ((bo sp sc (ae rst ↑(aE rst)) (pn,pl)).1) ((bo sp sc (ae rst ↑(aE rst)) (pn,pl)).2) hq q hf fg bare sp (aa rst ↑(aE rst)),bD (0:Nat) bsc bus bpw bhk bhs bhn bhp bport bopq bpn bpl bhq bq bhf bfg])∧
 ((!true)=false→
 bpl.length.le (1000000:Nat)∧
 bQ rst=false∧
 (false=true→
 k (PV.int .i64 (0:Int)) [bT (PV.ptr (1:Nat) (0:Nat)) 1 sc us pw bhk bhs bhn bhp port opq bpn bpl hq q hf fg bare sp rst,bD (0:Nat) bsc bus bpw bhk bhs bhn bhp bport bopq bpn bpl bhq bq bhf bfg])∧
 (false=false→
 (List.length rst≤(300000:Nat)∧
 bpl.length≤(1000000:Nat)∧
 bm rst=false)∧
 (List.length rst≤(300000:Nat)∧
 (RS.mk sc us pw bhk bhs bhn bhp port opq bpn bpl hq q hf fg bare sp rst).short.pl.length≤(100000:Nat))∧
 k (PV.int .i64 (0:Int)) [bT (PV.ptr (1:Nat) (0:Nat)) 1 sc us pw bhk bhs bhn bhp port opq ((bo sp sc (ae rst ↑(aE rst)) ((RS.mk sc us pw bhk bhs bhn bhp port opq bpn bpl hq q hf fg bare sp rst).short.pn,(RS.mk sc us pw bhk bhs bhn bhp port opq bpn bpl hq q hf fg bare sp rst).short.pl)).1) ((bo sp sc (ae rst ↑(aE rst)) ((RS.mk sc us pw bhk bhs bhn bhp port opq bpn bpl hq q hf fg bare sp rst).short.pn,(RS.mk sc us pw bhk bhs bhn bhp port opq bpn bpl hq q hf fg bare sp rst).short.pl)).2) hq q hf fg bare sp (aa rst ↑(aE rst)),bD (0:Nat) bsc bus bpw bhk bhs bhn bhp bport bopq bpn bpl bhq bq bhf bfg])))))∧
 (false=!true→
 (false=true→
 upto (2:Int) (ak rst) (ak rst)∧
 False∧
 False)∧
 (false=false→
 az sp rst (0:Int)=false∧
 (false=true→
 False)∧
 (false=false→
 bsc=sc∧
 ((!true)=true→
 (List.length rst≤(300000:Nat)∧
 pl.length≤(100000:Nat))∧
 k (PV.int .i64 (0:Int)) [bT (PV.ptr (1:Nat) (0:Nat)) 1 sc us pw (1:Int) hs hn hp port opq ((bo sp sc (ae rst ↑(aE rst)) (pn,pl)).1) ((bo sp sc (ae rst ↑(aE rst)) (pn,pl)).2) hq q hf fg bare sp (aa rst ↑(aE rst)),bD (0:Nat) bsc bus bpw bhk bhs bhn bhp bport bopq bpn bpl bhq bq bhf bfg])∧
 ((!true)=false→
 bpl.length.le (1000000:Nat)∧
 bQ rst=false∧
 (false=true→
 k (PV.int .i64 (0:Int)) [bT (PV.ptr (1:Nat) (0:Nat)) 1 sc us pw bhk bhs bhn bhp port opq bpn bpl hq q hf fg bare sp rst,bD (0:Nat) bsc bus bpw bhk bhs bhn bhp bport bopq bpn bpl bhq bq bhf bfg])∧
 (false=false→
 (List.length rst≤(300000:Nat)∧
 bpl.length≤(1000000:Nat)∧
 bm rst=false)∧
 (List.length rst≤(300000:Nat)∧
 (RS.mk sc us pw bhk bhs bhn bhp port opq bpn bpl hq q hf fg bare sp rst).short.pl.length≤(100000:Nat))∧
 k (PV.int .i64 (0:Int)) [bT (PV.ptr (1:Nat) (0:Nat)) 1 sc us pw bhk bhs bhn bhp port opq ((bo sp sc (ae rst ↑(aE rst)) ((RS.mk sc us pw bhk bhs bhn bhp port opq bpn bpl hq q hf fg bare sp rst).short.pn,(RS.mk sc us pw bhk bhs bhn bhp port opq bpn bpl hq q hf fg bare sp rst).short.pl)).1) ((bo sp sc (ae rst ↑(aE rst)) ((RS.mk sc us pw bhk bhs bhn bhp port opq bpn bpl hq q hf fg bare sp rst).short.pn,(RS.mk sc us pw bhk bhs bhn bhp port opq bpn bpl hq q hf fg bare sp rst).short.pl)).2) hq q hf fg bare sp (aa rst ↑(aE rst)),bD (0:Nat) bsc bus bpw bhk bhs bhn bhp bport bopq bpn bpl bhq bq bhf bfg])))))):=by kernel_rfl
attribute [local irreducible] Go.Vc.cC Go.Vc.bK
theorem Aq(sc us pw:Bs)(hk:Int)(hs:Bs)(hn:Int)(hp:List Int)(port:Int)(opq pn:Bool)(pl:List Bs)(hq:Bool)(q:Bs)(hf:Bool)(fg:Bs)(bare sp:Bool)(rst:Bs)(bsc bus bpw:Bs)(bhk:Int)(bhs:Bs)(bhn:Int)(bhp:List Int)(bport:Int)(bopq bpn:Bool)(bpl:List Bs)(bhq:Bool)(bq:Bs)(bhf:Bool)(bfg:Bs):bj Tryz.prog ay 76 [.ptr 0 0] [aC 1 (.ptr 1 0) sc us pw hk hs hn hp port opq pn pl hq q hf fg bare sp rst,bD 0 bsc bus bpw bhk bhs bhn bhp bport bopq bpn bpl bhq bq bhf bfg] (rst.length≤300000∧bpl.length≤100000∧az sp rst 0=false∧bQ rst=false∧bm rst=false∧bsc=sc) (.int .i64 0) [aC 1 (.ptr 1 0) sc us pw (((RS.mk sc us pw hk hs hn hp port opq pn pl hq q hf fg bare sp rst).b8 (RS.mk bsc bus bpw bhk bhs bhn bhp bport bopq bpn bpl bhq bq bhf bfg false false [])).hk) (((RS.mk sc us pw hk hs hn hp port opq pn pl hq q hf fg bare sp rst).b8 (RS.mk bsc bus bpw bhk bhs bhn bhp bport bopq bpn bpl bhq bq bhf bfg false false [])).hs) (((RS.mk sc us pw hk hs hn hp port opq pn pl hq q hf fg bare sp rst).b8 (RS.mk bsc bus bpw bhk bhs bhn bhp bport bopq bpn bpl bhq bq bhf bfg false false [])).hn) (((RS.mk sc us pw hk hs hn hp port opq pn pl hq q hf fg bare sp rst).b8 (RS.mk bsc bus bpw bhk bhs bhn bhp bport bopq bpn bpl bhq bq bhf bfg false false [])).hp) port opq (((RS.mk sc us pw hk hs hn hp port opq pn pl hq q hf fg bare sp rst).b8 (RS.mk bsc bus bpw bhk bhs bhn bhp bport bopq bpn bpl bhq bq bhf bfg false false [])).pn) (((RS.mk sc us pw hk hs hn hp port opq pn pl hq q hf fg bare sp rst).b8 (RS.mk bsc bus bpw bhk bhs bhn bhp bport bopq bpn bpl bhq bq bhf bfg false false [])).pl) hq q hf fg bare sp (((RS.mk sc us pw hk hs hn hp port opq pn pl hq q hf fg bare sp rst).b8 (RS.mk bsc bus bpw bhk bhs bhn bhp bport bopq bpn bpl bhq bq bhf bfg false false [])).rst),bD 0 bsc bus bpw bhk bhs bhn bhp bport bopq bpn bpl bhq bq bhf bfg]:=bt (by kernel_rfl) Ap (H:=BN sc us pw hk hs hn hp port opq pn pl hq q hf fg bare sp rst bsc bus bpw bhk bhs bhn bhp bport bopq bpn bpl bhq bq bhf bfg) (fuel:=1000) Tryz.func76 (by kernel_rfl) (Nat.le_of_ble_eq_true rfl) fun hpre=>(Gu sc us pw hk hs hn hp port opq pn pl hq q hf fg bare sp rst bsc bus bpw bhk bhs bhn bhp bport bopq bpn bpl bhq bq bhf bfg _).mpr (by
 obtain ⟨h1,h2,h3,h4,h5,h6⟩:=hpre
 have hz:(0:Int)≤0∧(0:Int)<1000:=⟨by decide,by decide⟩
 have hp:(bZ sc (bpn,bpl)).2.length≤100000:=by
  unfold bZ
  split
  ·exact h2
  ·show(bpl.take _).length≤_
   rw [List.length_take];omega
 exact ⟨⟨hz,h3⟩,(fun h=>nomatch h),fun _=>⟨(fun h=>nomatch h),fun _=>⟨h3,(fun h=>nomatch h),fun _=>⟨h6,(fun h=>nomatch h),fun _=>⟨show bpl.length≤1000000 by omega,h4,(fun h=>nomatch h),fun _=>⟨⟨h1,by omega,h5⟩,⟨h1,hp⟩,rfl,rfl⟩⟩⟩⟩⟩⟩)
theorem Gv(sc us pw:Bs)(hk:Int)(hs:Bs)(hn:Int)(hp:List Int)(port:Int)(opq pn:Bool)(pl:List Bs)(hq:Bool)(q:Bs)(hf:Bool)(fg:Bs)(bare sp:Bool)(rst:Bs)(bsc bus bpw:Bs)(bhk:Int)(bhs:Bs)(bhn:Int)(bhp:List Int)(bport:Int)(bopq bpn:Bool)(bpl:List Bs)(bhq:Bool)(bq:Bs)(bhf:Bool)(bfg:Bs):ag Tryz.prog ay 76 [.ptr 0 0,aC 1 (.ptr 1 0) sc us pw hk hs hn hp port opq pn pl hq q hf fg bare sp rst,bD 0 bsc bus bpw bhk bhs bhn bhp bport bopq bpn bpl bhq bq bhf bfg] ⟨rst.length≤300000∧bpl.length≤100000∧az sp rst 0=false∧bQ rst=false∧bm rst=false∧bsc=sc,.tup [.int .i64 0,aC 1 (.ptr 1 0) sc us pw (((RS.mk sc us pw hk hs hn hp port opq pn pl hq q hf fg bare sp rst).b8 (RS.mk bsc bus bpw bhk bhs bhn bhp bport bopq bpn bpl bhq bq bhf bfg false false [])).hk) (((RS.mk sc us pw hk hs hn hp port opq pn pl hq q hf fg bare sp rst).b8 (RS.mk bsc bus bpw bhk bhs bhn bhp bport bopq bpn bpl bhq bq bhf bfg false false [])).hs) (((RS.mk sc us pw hk hs hn hp port opq pn pl hq q hf fg bare sp rst).b8 (RS.mk bsc bus bpw bhk bhs bhn bhp bport bopq bpn bpl bhq bq bhf bfg false false [])).hn) (((RS.mk sc us pw hk hs hn hp port opq pn pl hq q hf fg bare sp rst).b8 (RS.mk bsc bus bpw bhk bhs bhn bhp bport bopq bpn bpl bhq bq bhf bfg false false [])).hp) port opq (((RS.mk sc us pw hk hs hn hp port opq pn pl hq q hf fg bare sp rst).b8 (RS.mk bsc bus bpw bhk bhs bhn bhp bport bopq bpn bpl bhq bq bhf bfg false false [])).pn) (((RS.mk sc us pw hk hs hn hp port opq pn pl hq q hf fg bare sp rst).b8 (RS.mk bsc bus bpw bhk bhs bhn bhp bport bopq bpn bpl bhq bq bhf bfg false false [])).pl) hq q hf fg bare sp (((RS.mk sc us pw hk hs hn hp port opq pn pl hq q hf fg bare sp rst).b8 (RS.mk bsc bus bpw bhk bhs bhn bhp bport bopq bpn bpl bhq bq bhf bfg false false [])).rst),bD 0 bsc bus bpw bhk bhs bhn bhp bport bopq bpn bpl bhq bq bhf bfg]⟩:=ag.aZ (fun h=>by have e:List.isEmpty (PV.aA PV.br [.ptr 0 0,aC 1 (.ptr 1 0) sc us pw hk hs hn hp port opq pn pl hq q hf fg bare sp rst,bD 0 bsc bus bpw bhk bhs bhn bhp bport bopq bpn bpl bhq bq bhf bfg])=false:=(by kernel_rfl);exact Bool.noConfusion (e.symm.trans (congrArg List.isEmpty h))) (Aq sc us pw hk hs hn hp port opq pn pl hq q hf fg bare sp rst bsc bus bpw bhk bhs bhn bhp bport bopq bpn bpl bhq bq bhf bfg)
def nQ:List PV→Option aI:=fun xs=>match xs with
 |[.ptr 0 0,aC 1 (.ptr 1 0) sc us pw hk hs hn hp port opq pn pl hq q hf fg bare sp rst,bD 0 bsc bus bpw bhk bhs bhn bhp bport bopq bpn bpl bhq bq bhf bfg]=>some ⟨rst.length≤300000∧bpl.length≤100000∧az sp rst 0=false∧bQ rst=false∧bm rst=false∧bsc=sc,.tup [.int .i64 0,aC 1 (.ptr 1 0) sc us pw (((RS.mk sc us pw hk hs hn hp port opq pn pl hq q hf fg bare sp rst).b8 (RS.mk bsc bus bpw bhk bhs bhn bhp bport bopq bpn bpl bhq bq bhf bfg false false [])).hk) (((RS.mk sc us pw hk hs hn hp port opq pn pl hq q hf fg bare sp rst).b8 (RS.mk bsc bus bpw bhk bhs bhn bhp bport bopq bpn bpl bhq bq bhf bfg false false [])).hs) (((RS.mk sc us pw hk hs hn hp port opq pn pl hq q hf fg bare sp rst).b8 (RS.mk bsc bus bpw bhk bhs bhn bhp bport bopq bpn bpl bhq bq bhf bfg false false [])).hn) (((RS.mk sc us pw hk hs hn hp port opq pn pl hq q hf fg bare sp rst).b8 (RS.mk bsc bus bpw bhk bhs bhn bhp bport bopq bpn bpl bhq bq bhf bfg false false [])).hp) port opq (((RS.mk sc us pw hk hs hn hp port opq pn pl hq q hf fg bare sp rst).b8 (RS.mk bsc bus bpw bhk bhs bhn bhp bport bopq bpn bpl bhq bq bhf bfg false false [])).pn) (((RS.mk sc us pw hk hs hn hp port opq pn pl hq q hf fg bare sp rst).b8 (RS.mk bsc bus bpw bhk bhs bhn bhp bport bopq bpn bpl bhq bq bhf bfg false false [])).pl) hq q hf fg bare sp (((RS.mk sc us pw hk hs hn hp port opq pn pl hq q hf fg bare sp rst).b8 (RS.mk bsc bus bpw bhk bhs bhn bhp bport bopq bpn bpl bhq bq bhf bfg false false [])).rst),bD 0 bsc bus bpw bhk bhs bhn bhp bport bopq bpn bpl bhq bq bhf bfg]⟩
 |_=>none
theorem vw:∀xs c,nQ xs=some c→ag Tryz.prog ay 76 xs c:=fun xs c h=>by
 unfold nQ at h
 split at h
 ·injection h with h;subst h;exact Gv _ _ _ _ _ _ _ _ _ _ _ _ _ _ _ _ _ _ _ _ _ _ _ _ _ _ _ _ _ _ _ _ _
 ·cases h
end
end Go.Proofs.YtmfapopclbnlpaaGreatDoor
