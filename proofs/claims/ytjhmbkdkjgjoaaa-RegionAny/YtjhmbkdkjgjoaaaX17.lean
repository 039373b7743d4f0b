import Derived.Test.YtjhmbkdkjgjoaaaX16
namespace Go.Proofs.Ytjhmbkdkjgjoaaa
open Go.RowKit
set_option maxHeartbeats 6000000
end Go.Proofs.Ytjhmbkdkjgjoaaa
