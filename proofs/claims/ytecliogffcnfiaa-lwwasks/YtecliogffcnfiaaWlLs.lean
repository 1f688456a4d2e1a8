
end Go.Proofs.Ytecliogffcnfiaa
